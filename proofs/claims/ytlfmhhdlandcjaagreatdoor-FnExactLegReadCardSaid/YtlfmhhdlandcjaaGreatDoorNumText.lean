/-
  Numbers as text, one behind the other: the model's answer and the program's.
-/
import Derived.Test.YtlfmhhdlandcjaaGreatDoorItoaN
import Derived.Test.YtlfmhhdlandcjaaGreatDoorLegMath
import Derived.Lib.QuietBelow
import Derived.OwnWalk
import Derived.Lib.Join
namespace Go.Proofs.YtlfmhhdlandcjaaGreatDoor
open Go.RowKit
set_option linter.unusedVariables false
set_option linter.unusedSimpArgs false

def decB (x : Int) : ByteArray := ⟨(Lib.decDigits x.toNat).toArray⟩
theorem decB_size {x : Int} (h0 : 0 ≤ x) (h1 : x ≤ 9223372036854775807) : (decB x).size ≤ 20 := by
  have := dec_len x.toNat (by omega)
  simpa [decB, ByteArray.size] using this
/-- The first n numbers, each as text. -/
def wordsN (z : Nat → Int) : Nat → List ByteArray
  | 0 => []
  | n + 1 => wordsN z n ++ [decB (z n)]
theorem wordsN_len (z : Nat → Int) : ∀ n, (wordsN z n).length = n
  | 0 => rfl
  | n + 1 => by simp [wordsN, wordsN_len z n]
theorem wordsN_get (z : Nat → Int) : ∀ n i, i < n → (wordsN z n)[i]? = some (decB (z i))
  | 0, i, h => absurd h (Nat.not_lt_zero _)
  | n + 1, i, h => by
    have hl := wordsN_len z n
    rcases Nat.lt_or_ge i n with q | q
    · rw [wordsN, List.getElem?_append_left (by omega), wordsN_get z n i q]
    · obtain rfl : i = n := by omega
      rw [wordsN, List.getElem?_append_right (by omega), hl]
      simp
theorem wordsN_small {z : Nat → Int} : ∀ {n : Nat}, (∀ i, i < n → 0 ≤ z i ∧ z i ≤ 9223372036854775807) → ∀ x ∈ wordsN z n, x.size ≤ 20
  | 0, _, x, hx => by simp [wordsN] at hx
  | n + 1, h, x, hx => by
    rw [wordsN, List.mem_append, List.mem_singleton] at hx
    rcases hx with hx | rfl
    · exact wordsN_small (fun i hi => h i (by omega)) x hx
    · exact decB_size (h n (by omega)).1 (h n (by omega)).2
def joinS (sep : UInt8) (ss : List ByteArray) : List UInt8 := Lib.join (ss.map (·.data.toList)) [sep]
theorem join_app (x : List UInt8) (r : List (List UInt8)) (y sep : List UInt8) : Lib.join ((x :: r) ++ [y]) sep = Lib.join (x :: r) sep ++ (sep ++ y) := by
  rw [List.cons_append, Lib.join_cons, Lib.join_cons, Lib.joinTail, Lib.joinTail]
  simp
theorem joinS_one (sep : UInt8) (x : ByteArray) : joinS sep [x] = x.data.toList := by simp [joinS, Lib.join_one]
theorem joinS_snoc (sep : UInt8) (l : List ByteArray) (x : ByteArray) (h : l ≠ []) : joinS sep (l ++ [x]) = joinS sep l ++ sep :: x.data.toList := by
  cases l with
  | nil => exact absurd rfl h
  | cons y r =>
    unfold joinS
    rw [List.map_append, List.map_cons, List.map_cons, List.map_nil, join_app]; rfl
theorem lensS_le (m : Nat) : ∀ (l : List ByteArray), (∀ x ∈ l, x.size ≤ m) → Lib.lens (l.map (·.data.toList)) ≤ m * l.length
  | [], h => by simp [Lib.lens]
  | x :: r, h => by
    have ih := lensS_le m r (fun y hy => h y (by simp [hy]))
    have hx := h x (by simp)
    simp only [Lib.lens, List.map_cons, List.sum_cons, List.length_cons] at ih ⊢
    have : x.data.toList.length = x.size := by simp
    rw [Nat.mul_succ]
    omega
theorem joinS_len (sep : UInt8) (m : Nat) (l : List ByteArray) (h : ∀ x ∈ l, x.size ≤ m) : (joinS sep l).length ≤ (m + 1) * l.length := by
  cases l with
  | nil => simp [joinS, Lib.join_nil]
  | cons x r =>
    have := lensS_le m (x :: r) h
    unfold joinS
    rw [List.map_cons] at this ⊢
    rw [Lib.join_length]
    simp only [List.length_cons, List.length_nil, List.length_map] at this ⊢
    have e1 : (m + 1) * (r.length + 1) = m * (r.length + 1) + (r.length + 1) := Nat.succ_mul _ _
    omega
/-- Numbers as text. -/
def numT (z : Nat → Int) (n : Nat) : List UInt8 := joinS 44 (wordsN z n)
def numB (z : Nat → Int) (n : Nat) : ByteArray := ⟨(numT z n).toArray⟩
def Small (z : Nat → Int) (n : Nat) : Prop := n ≤ 8 ∧ ∀ i, i < n → 0 ≤ z i ∧ z i ≤ 1000000000
theorem numT_len {z : Nat → Int} {n : Nat} (h : Small z n) : (numT z n).length ≤ 168 := by
  have := joinS_len 44 20 (wordsN z n) (wordsN_small (fun i hi => ⟨(h.2 i hi).1, by have := (h.2 i hi).2; omega⟩))
  rw [wordsN_len] at this
  have := h.1
  unfold numT
  omega
theorem numB_size {z : Nat → Int} {n : Nat} (h : Small z n) : (numB z n).size ≤ 168 := by
  have := numT_len h
  simpa [numB, ByteArray.size] using this
theorem numT_next (z : Nat → Int) (n : Nat) : numT z (n + 1) = if n = 0 then (decB (z n)).data.toList else numT z n ++ 44 :: (decB (z n)).data.toList := by
  unfold numT
  rw [wordsN]
  split
  · rename_i h; subst h; exact joinS_one _ _
  · exact joinS_snoc _ _ _ (fun e => by have := congrArg List.length e; rw [wordsN_len] at this; simp at this; omega)

def NumPost (z : Nat → Int) (n : Nat) (w : World) (e : Ending) (w' : World) : Prop := e = .returned (.string (numB z n)) ∧ Below w.heap.size w w'
set_option maxHeartbeats 4000000 in
theorem listS (a : Option Addr) (len cap : Nat) (z : Nat → Int) (w : World) (h : Nums w a len z) (hs : Small z len) :
    Calls Tryz.prog 64 #[.slice a len cap] w (NumPost z len w) := by
  have H := Lib.hid h
  have HS := Lib.hid hs
  have hl8 := hs.1
  clear h hs
  go_enter Tryz.func64, Tryz.ntmps64
  go_wp2_with fail
  go_loopw [3, 4] (fun vo vi wr => ∃ (k : Nat) (o : ByteArray), k ≤ len ∧ vo = .string o ∧ vi = .int .i64 k ∧ o.size ≤ 168 ∧ Hid (o.data.toList = numT z k) ∧ Below w.heap.size w wr) (fun _ vi _ => len - (intOf vi).toNat)
  case atStart => exact ⟨0, ⟨#[]⟩, Nat.zero_le _, rfl, rfl, by decide, by simp [Hid, numT, wordsN, joinS, Lib.join_nil], Below.refl _ _⟩
  case round =>
    obtain ⟨k, o, hk, rfl, rfl, hoz, ho, hb⟩ := hrel
    rcases Nat.lt_or_ge k len with hlt | hge
    · obtain ⟨bL, oL, rfl, hbL, hcL⟩ := (H.out.kept hb).cells (by omega)
      have c1 := hcL k hlt
      have k1 : (k : Int) < len := by omega
      have k0 : (0 : Int) ≤ k := by omega
      have hz := HS.out.2 k hlt
      have hnx := numT_next z k
      have hl1 := numT_len (z := z) (n := k + 1) ⟨by omega, fun i hi => HS.out.2 i (by omega)⟩
      clear hcL
      generalize z k = x at *
      have hdx := decB_size hz.1 (by omega)
      rcases Nat.eq_zero_or_pos k with hk0 | hkp
      · have g0 : decide ((0 : Int) < (k : Int)) = false := decide_eq_false (by omega)
        have g0n : decide (0 < k) = false := decide_eq_false (by omega)
        rw [if_pos hk0] at hnx
        have hj : Hid ((o ++ decB x).data.toList = numT z (k + 1)) := by
          show _ = _
          have : o.data.toList = [] := by rw [ho.out, hk0]; simp [numT, wordsN, joinS, Lib.join_nil]
          rw [hnx]
          simp [this]
        have hz2 : Hid ((o ++ decB x).size ≤ 168) := by
          have := congrArg List.length hj.out
          have e : (o ++ decB x).data.toList.length = (o ++ decB x).size := Array.length_toList
          refine Lib.hid ?_
          omega
        have hfit : o.size + (decB x).size ≤ 9223372036854775807 := by omega
        clear hk0 hnx hl1
        go_wp2_with fail
        refine (decS x wr hz.1 (by omega)).mono ?_
        rintro e wd ⟨s, rfl, hs20, hse, hbd⟩
        have e1 : s = decB x := hse.out
        subst e1
        have hb2 := bt hb hbd
        have m1 : ¬ 9223372036854775807 < o.size + (decB x).size := by omega
        clear hbd hse c1
        go_wp2
        go_roundw
        case rel => exact ⟨k + 1, o ++ decB x, by omega, rfl, by go_num, hz2.out, hj, hb2⟩
        case measure => simp [intOf]; omega
      · have g0 : decide ((0 : Int) < (k : Int)) = true := decide_eq_true (by omega)
        have g0n : decide (0 < k) = true := decide_eq_true hkp
        rw [if_neg (by omega)] at hnx
        have hj : Hid ((o ++ ⟨#[44]⟩ ++ decB x).data.toList = numT z (k + 1)) := by
          show _ = _
          rw [hnx, ← ho.out]
          simp
        have hz2 : Hid ((o ++ ⟨#[44]⟩ ++ decB x).size ≤ 168) := by
          have := congrArg List.length hj.out
          have e : (o ++ ⟨#[44]⟩ ++ decB x).data.toList.length = (o ++ ⟨#[44]⟩ ++ decB x).size := Array.length_toList
          refine Lib.hid ?_
          omega
        clear hnx hl1
        go_wp2_with fail
        refine (decS x wr hz.1 (by omega)).mono ?_
        rintro e wd ⟨s, rfl, hs20, hse, hbd⟩
        have e1 : s = decB x := hse.out
        subst e1
        have hb2 := bt hb hbd
        have m0 : ¬ 9223372036854775807 < o.size + 1 := by omega
        have m1 : ¬ 9223372036854775807 < o.size + 1 + (decB x).size := by omega
        clear hbd hse c1
        go_wp2
        go_roundw
        case rel => exact ⟨k + 1, o ++ ⟨#[44]⟩ ++ decB x, by omega, rfl, by go_num, hz2.out, hj, hb2⟩
        case measure => simp [intOf]; omega
    · obtain rfl : k = len := by omega
      have e1 : o = numB z k := by
        apply ByteArray.ext
        apply Array.ext'
        rw [ho.out]
        simp [numB]
      subst e1
      go_wp2
      go_ret
      exact ⟨rfl, hb⟩
end Go.Proofs.YtlfmhhdlandcjaaGreatDoor
