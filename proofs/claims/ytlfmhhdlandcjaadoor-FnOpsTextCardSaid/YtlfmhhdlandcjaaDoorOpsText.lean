/-
  Numbers as text, below nought too; the text of ops.
-/
import Derived.Test.YtlfmhhdlandcjaaDoorItoaN
import Derived.Test.YtlfmhhdlandcjaaDoorOpsGood
import Derived.Test.YtlfmhhdlandcjaaDoorFree
import Derived.Lib.Join
import Derived.Deep.Cut
namespace Go.Proofs.YtlfmhhdlandcjaaDoor
open Go.RowKit
set_option linter.unusedVariables false
set_option linter.unusedSimpArgs false

def intB (x : Int) : ByteArray := ⟨(Lib.itoa x).toArray⟩
theorem intB_pos {x : Int} (h : 0 ≤ x) : intB x = ⟨(Lib.decDigits x.toNat).toArray⟩ := by rw [intB, Lib.itoa, if_neg (by omega)]
theorem intB_neg {x : Int} (h : x < 0) : intB x = ⟨#[45]⟩ ++ ⟨(Lib.decDigits (-x).toNat).toArray⟩ := by
  apply ByteArray.ext
  apply Array.ext'
  rw [intB, Lib.itoa, if_pos h, show x.natAbs = (-x).toNat by omega]
  simp
theorem intB_size {x : Int} (h0 : -9223372036854775807 ≤ x) (h1 : x ≤ 9223372036854775807) : (intB x).size ≤ 21 := by
  show (Lib.itoa x).toArray.size ≤ 21
  rw [Lib.itoa]
  split
  · have := dec_len x.natAbs (by omega)
    simp; omega
  · have := dec_len x.toNat (by omega)
    simp; omega
def IntPost (x : Int) (w : World) (e : Ending) (w' : World) : Prop := e = .returned (.string (intB x)) ∧ Below w.heap.size w w'
theorem decZ (x : Int) (w : World) (h0 : -9223372036854775807 ≤ x) (h1 : x ≤ 9223372036854775807) :
    Calls Tryd.prog 31 #[.int .i64 x] w (IntPost x w) := by
  rcases Int.lt_or_le x 0 with h | h
  · have z0 : decide (x < -9223372036854775807) = false := decide_eq_false (by omega)
    have z1 : decide (x < 0) = true := decide_eq_true h
    have e0 : IntKind.i64.wrap (-x) = -x := IntWalk.i64_in _ (by omega)
    have K : Hid (∀ W, Calls Tryd.prog 31 #[.int .i64 (-x)] W (DecPost (-x) W)) := fun W => decS (-x) W (by omega) (by omega)
    have HN := Lib.hid (intB_neg h)
    clear h
    go_enter Tryd.func31, Tryd.ntmps31
    go_wp2_with fail
    refine (K.out w).mono ?_
    rintro e w1 ⟨s, rfl, hs, hse, hb⟩
    have HB := Lib.hid hb
    have m1 : ¬ 9223372036854775807 < 1 + s.size := by omega
    clear hb
    go_wp2
    go_ret
    exact ⟨retS (by rw [HN.out, hse.out]), HB.out⟩
  · exact (dec x w h h1).mono fun _ _ q => ⟨by rw [q.1, intB_pos h], q.2⟩
theorem itoaZ (x : Int) (w : World) (hL : Laid w) (h0 : -9223372036854775807 ≤ x) (h1 : x ≤ 9223372036854775807) :
    Calls Tryd.prog 26 #[.int .i64 x] w (IntPost x w) :=
  (Tryd.strconv_Itoa x (by omega) h1 w hL).mono fun e w' h => by
    obtain ⟨rfl, k, os, rfl⟩ := h
    exact ⟨rfl, below_grow w k os⟩
/-- The text of one op, and of many. -/
def opB (d : OpD) : ByteArray := d.leg ++ ⟨#[58]⟩ ++ intB d.cls ++ ⟨#[58]⟩ ++ intB d.st ++ ⟨#[58]⟩ ++ intB d.sh
def opWords (ds : Nat → OpD) : Nat → List ByteArray
  | 0 => []
  | n + 1 => opWords ds n ++ [opB (ds n)]
theorem opWords_len (ds : Nat → OpD) : ∀ n, (opWords ds n).length = n
  | 0 => rfl
  | n + 1 => by simp [opWords, opWords_len ds n]
theorem opWords_get (ds : Nat → OpD) : ∀ n i, i < n → (opWords ds n)[i]? = some (opB (ds i))
  | 0, i, h => absurd h (Nat.not_lt_zero _)
  | n + 1, i, h => by
    have hl := opWords_len ds n
    rcases Nat.lt_or_ge i n with q | q
    · rw [opWords, List.getElem?_append_left (by omega), opWords_get ds n i q]
    · obtain rfl : i = n := by omega
      rw [opWords, List.getElem?_append_right (by omega), hl]
      simp
theorem nameB_size {s : ByteArray} (h : nameB s.data.toList = true) : s.size ≤ 8 := by
  simp only [nameB, Bool.and_eq_true, decide_eq_true_eq] at h
  have : s.data.toList.length = s.size := by simp
  omega
theorem opB_size {d : OpD} (h : OpGood d) : (opB d).size ≤ 74 := by
  obtain ⟨h1, h2, h3, h4, h5⟩ := h
  have a1 := nameB_size h1
  have a2 := intB_size (x := d.cls) (by omega) (by omega)
  have a3 := intB_size (x := d.st) (by omega) (by omega)
  have a4 := intB_size (x := d.sh) (by omega) (by omega)
  have e1 : (⟨#[58]⟩ : ByteArray).size = 1 := rfl
  simp only [opB, ByteArray.size_append, e1]
  omega
/-- What stands in the text when k ops are written. -/
def opsB (ds : Nat → OpD) : Nat → ByteArray
  | 0 => ⟨#[]⟩
  | 1 => opB (ds 0)
  | n + 2 => opsB ds (n + 1) ++ ⟨#[44]⟩ ++ opB (ds (n + 1))
def OpsText (n : Nat) (ds : Nat → OpD) (o : ByteArray) : Prop := (OpsGood n ds → o = opsB ds n) ∧ (¬ OpsGood n ds → o = ⟨#[]⟩)
theorem opsText_one {n : Nat} {ds : Nat → OpD} {o p : ByteArray} (h : OpsText n ds o) (k : OpsText n ds p) : o = p := by
  by_cases q : OpsGood n ds
  · rw [h.1 q, k.1 q]
  · rw [h.2 q, k.2 q]
end Go.Proofs.YtlfmhhdlandcjaaDoor
