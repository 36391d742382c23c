/-
  Numbers as text, below nought too.
-/
import Derived.Test.YtjhgmmcglonokaaGreatDoorJ7
import Derived.Lib.Join
import Derived.Deep.Cut
namespace Go.Proofs.YtjhgmmcglonokaaGreatDoor
open Go.RowKit
set_option linter.unusedVariables false
set_option linter.unusedSimpArgs false

def intB (x : Int) : ByteArray := ⟨(Lib.itoa x).toArray⟩
theorem intB_pos {x : Int} (h : 0 ≤ x) : intB x = ⟨(Lib.decDigits x.toNat).toArray⟩ := by rw [intB, Lib.itoa, if_neg (by omega)]
theorem intB_neg {x : Int} (h : x < 0) : intB x = ⟨#[45]⟩ ++ ⟨(Lib.decDigits (-x).toNat).toArray⟩ := by
  apply ByteArray.ext
  apply Array.ext'
  rw [intB, Lib.itoa, if_pos h, show x.natAbs = (-x).toNat by omega]
  simp
theorem intB_size {x : Int} (h0 : -9223372036854775807 ≤ x) (h1 : x ≤ 9223372036854775807) : (intB x).size ≤ 21 := by
  show (Lib.itoa x).toArray.size ≤ 21
  rw [Lib.itoa]
  split
  · have := dec_len x.natAbs (by omega)
    simp; omega
  · have := dec_len x.toNat (by omega)
    simp; omega
def IntPost (x : Int) (w : World) (e : Ending) (w' : World) : Prop := e = .returned (.string (intB x)) ∧ Below w.heap.size w w'
theorem decZ (x : Int) (w : World) (h0 : -9223372036854775807 ≤ x) (h1 : x ≤ 9223372036854775807) :
    Calls Tryz.prog 103 #[.int .i64 x] w (IntPost x w) := by
  rcases Int.lt_or_le x 0 with h | h
  · have z0 : decide (x < -9223372036854775807) = false := decide_eq_false (by omega)
    have z1 : decide (x < 0) = true := decide_eq_true h
    have e0 : IntKind.i64.wrap (-x) = -x := IntWalk.i64_in _ (by omega)
    have K : Hid (∀ W, Calls Tryz.prog 103 #[.int .i64 (-x)] W (DecPost (-x) W)) := fun W => decS (-x) W (by omega) (by omega)
    have HN := Lib.hid (intB_neg h)
    clear h
    go_enter Tryz.func103, Tryz.ntmps103
    go_wp2_with fail
    refine (K.out w).mono ?_
    rintro e w1 ⟨s, rfl, hs, hse, hb⟩
    have HB := Lib.hid hb
    have m1 : ¬ 9223372036854775807 < 1 + s.size := by omega
    clear hb
    go_wp2
    go_ret
    exact ⟨retS (by rw [HN.out, hse.out]), HB.out⟩
  · exact (dec x w h h1).mono fun _ _ q => ⟨by rw [q.1, intB_pos h], q.2⟩
theorem itoaZ (x : Int) (w : World) (hL : Laid w) (h0 : -9223372036854775807 ≤ x) (h1 : x ≤ 9223372036854775807) :
    Calls Tryz.prog 74 #[.int .i64 x] w (IntPost x w) :=
  (Tryz.strconv_Itoa x (by omega) h1 w hL).mono fun e w' h => by
    obtain ⟨rfl, k, os, rfl⟩ := h
    exact ⟨rfl, below_grow w k os⟩
end Go.Proofs.YtjhgmmcglonokaaGreatDoor
