/-
  What a reader takes off a text: a run of letters or figures, a number, a list; as functions on bytes. No program is walked here.
-/
import Derived.Test.YtjhgmmcglonokaaGreatDoorJ1
import Derived.Lib.AtoiAll
import Derived.Lib.AtoiTie
import Derived.Lib.AtoiAllCases
import Derived.Lib.SlTrimSet
import Derived.Lib.ItoaNum
namespace Go.Proofs.YtjhgmmcglonokaaGreatDoor
open Go.RowKit
set_option linter.unusedVariables false
set_option linter.unusedSimpArgs false

def letS : List UInt8 := [97, 98, 99, 100, 101, 102, 103, 104, 105, 106, 107, 108, 109, 110, 111, 112, 113, 114, 115, 116, 117, 118, 119, 120, 121, 122]
def figS : List UInt8 := [45, 48, 49, 50, 51, 52, 53, 54, 55, 56, 57]
/-- What comes of a set, and what is left. -/
def runOf (cs l : List UInt8) : List UInt8 := l.takeWhile (cs.contains ·)
def offOf (cs l : List UInt8) : List UInt8 := l.dropWhile (cs.contains ·)
theorem run_off (cs l : List UInt8) : runOf cs l ++ offOf cs l = l := List.takeWhile_append_dropWhile
theorem run_len (cs l : List UInt8) : (runOf cs l).length + (offOf cs l).length = l.length := by
  have := congrArg List.length (run_off cs l)
  rwa [List.length_append] at this
theorem off_trim (cs l : List UInt8) : offOf cs l = Lib.trimLeftS l cs := rfl
theorem run_app (cs : List UInt8) : ∀ (a r : List UInt8), (∀ x ∈ a, cs.contains x = true) → (∀ x y, r = x :: y → cs.contains x = false) → runOf cs (a ++ r) = a ∧ offOf cs (a ++ r) = r
  | [], [], _, _ => ⟨rfl, rfl⟩
  | [], x :: y, _, h => by
    have := h x y rfl
    simp only [runOf, offOf, List.nil_append, List.takeWhile, List.dropWhile, this]
    exact ⟨trivial, trivial⟩
  | b :: a, r, h1, h2 => by
    have hb := h1 b (by simp)
    have ih := run_app cs a r (fun x hx => h1 x (by simp [hx])) h2
    simp only [runOf, offOf] at ih ⊢
    simp only [List.cons_append, List.takeWhile, List.dropWhile, hb, ih]
    exact ⟨trivial, trivial⟩
def rdNext (b : UInt8) : List UInt8 → Option (List UInt8)
  | [] => none
  | c :: r => if c = b then some r else none
def rdNum (l : List UInt8) : Option (Int × List UInt8) :=
  match Lib.atoiAll (runOf figS l) with
  | .ok v => some (v, offOf figS l)
  | _ => none
/-- A list, one or more, with a byte between. -/
def rdTail {α : Type} (b : UInt8) (f : List UInt8 → Option (α × List UInt8)) : Nat → List UInt8 → List α → Option (List α × List UInt8)
  | 0, r, acc => some (acc, r)
  | n + 1, r, acc => match rdNext b r with
    | none => some (acc, r)
    | some r1 => match f r1 with
      | none => none
      | some (x, r2) => rdTail b f n r2 (acc ++ [x])
def rdList {α : Type} (b : UInt8) (f : List UInt8 → Option (α × List UInt8)) (l : List UInt8) : Option (List α × List UInt8) :=
  match f l with
  | none => none
  | some (x, r) => rdTail b f r.length r [x]
theorem rdTail_stop {α : Type} {b : UInt8} {f : List UInt8 → Option (α × List UInt8)} {r : List UInt8} (h : rdNext b r = none) : ∀ (n : Nat) (acc : List α), rdTail b f n r acc = some (acc, r)
  | 0, acc => rfl
  | n + 1, acc => by rw [rdTail, h]
theorem rdNext_len {b : UInt8} {l r : List UInt8} (h : rdNext b l = some r) : l = b :: r := by
  cases l with
  | nil => simp [rdNext] at h
  | cons c l =>
    rw [rdNext] at h
    split at h
    · rename_i e; cases h; rw [e]
    · cases h
theorem rdTail_fell {α : Type} {b : UInt8} {f : List UInt8 → Option (α × List UInt8)} {r r1 : List UInt8} (h : rdNext b r = some r1) (hf : f r1 = none) {n : Nat} (hn : r.length ≤ n) (acc : List α) : rdTail b f n r acc = none := by
  have := rdNext_len h
  cases n with
  | zero => rw [this] at hn; simp at hn
  | succ n => simp only [rdTail, h, hf]
theorem rdTail_more {α : Type} {b : UInt8} {f : List UInt8 → Option (α × List UInt8)} {r r1 r2 : List UInt8} {x : α} (h : rdNext b r = some r1) (hf : f r1 = some (x, r2)) {n : Nat} (hn : r.length ≤ n) (acc : List α) : ∃ m, n = m + 1 ∧ r1.length ≤ m ∧ rdTail b f n r acc = rdTail b f m r2 (acc ++ [x]) := by
  have := rdNext_len h
  cases n with
  | zero => rw [this] at hn; simp at hn
  | succ n => exact ⟨n, rfl, by rw [this] at hn; simpa using hn, by simp only [rdTail, h, hf]⟩

/-! Numbers that were written are read. -/
theorem decFromA : ∀ (l l' : List UInt8) (a : Nat), Lib.decFrom a (l ++ l') = (Lib.decFrom a l).bind fun m => Lib.decFrom m l'
  | [], l', a => by simp [Lib.decFrom]
  | b :: l, l', a => by
    simp only [List.cons_append, Lib.decFrom]
    cases Lib.digitVal b with
    | none => rfl
    | some d => exact decFromA l l' _
theorem figVal {d : Nat} (h : d < 10) : Lib.digitVal (UInt8.ofNat (48 + d)) = some d := by
  have : ∀ d, d < 10 → Lib.digitVal (UInt8.ofNat (48 + d)) = some d := by decide
  exact this d h
theorem decFrom1 {a d : Nat} (h : d < 10) : Lib.decFrom a (Lib.decDigits d) = some (a * 10 + d) := by
  rw [Lib.decDigits_one h]
  simp only [Lib.decFrom, figVal h]
theorem decFromD (k : Nat) : ∀ n, n ≤ k → Lib.decFrom 0 (Lib.decDigits n) = some n := by
  induction k with
  | zero =>
    intro n h
    obtain rfl : n = 0 := by omega
    rw [decFrom1 (by omega)]
  | succ k ih =>
    intro n h
    by_cases h10 : n < 10
    · rw [decFrom1 h10]; congr 1; omega
    · rw [Lib.decDigits.eq_1 n, dif_neg h10, decFromA, ih (n / 10) (by omega)]
      have := figVal (d := n % 10) (by omega)
      simp only [Option.bind_some, Lib.decFrom, this]
      congr 1; omega
theorem digs_ne (n : Nat) : Lib.decDigits n ≠ [] := by
  intro h
  have hl : 1 ≤ (Lib.decDigits n).length := by rw [Lib.decDigits_length]; exact Lib.nDigits_pos n
  rw [h] at hl; simp at hl
theorem digs_fig (k : Nat) : ∀ n, n ≤ k → ∀ b ∈ Lib.decDigits n, 48 ≤ b.toNat ∧ b.toNat ≤ 57 := by
  have one : ∀ d, d < 10 → 48 ≤ (UInt8.ofNat (48 + d)).toNat ∧ (UInt8.ofNat (48 + d)).toNat ≤ 57 := by decide
  induction k with
  | zero =>
    intro n h b hb
    rw [Lib.decDigits_one (by omega)] at hb
    simp only [List.mem_singleton] at hb
    subst hb; exact one n (by omega)
  | succ k ih =>
    intro n h b hb
    by_cases h10 : n < 10
    · rw [Lib.decDigits_one h10] at hb
      simp only [List.mem_singleton] at hb
      subst hb; exact one n h10
    · rw [Lib.decDigits.eq_1 n, dif_neg h10] at hb
      simp only [List.mem_append, List.mem_singleton] at hb
      rcases hb with hb | hb
      · exact ih (n / 10) (by omega) b hb
      · subst hb; exact one (n % 10) (by omega)
theorem digs_len : ∀ (k n : Nat), n < 10 ^ (k + 1) → (Lib.decDigits n).length ≤ k + 1
  | 0, n, h => by rw [Lib.decDigits_one (by simpa using h)]; simp
  | k + 1, n, h => by
    rw [Lib.decDigits.eq_1 n]
    split
    · simp
    · have := digs_len k (n / 10) (by rw [Nat.pow_succ] at h; omega)
      simp; omega
theorem atoi_itoa {x : Int} (h : x.natAbs < 100000000000000000) : Lib.atoiAll (Lib.itoa x) = .ok x := by
  have hl := digs_len 16 x.natAbs (by omega)
  have hnum := decFromD x.natAbs x.natAbs (Nat.le_refl _)
  have hne := digs_ne x.natAbs
  have hfig := digs_fig _ x.natAbs (Nat.le_refl _)
  by_cases hx : x < 0
  · have e : Lib.itoa x = 45 :: Lib.decDigits x.natAbs := by rw [Lib.itoa, if_pos hx]
    rw [e, Lib.atoiAll_short _ (by rw [List.length_cons]; omega)]
    generalize Lib.decDigits x.natAbs = D at *
    have hD : D.isEmpty = false := by cases D with
      | nil => exact absurd rfl hne
      | cons a b => rfl
    simp only [Lib.atoi, Lib.decNat, beq_self_eq_true, if_true, hD, hnum]
    simp only [Bool.false_eq_true, if_false, Option.map_some, Lib.NumEnd.ofOption]
    congr 1; omega
  · have e : Lib.itoa x = Lib.decDigits x.natAbs := by rw [Lib.itoa, if_neg hx]; congr 1; omega
    rw [e, Lib.atoiAll_short _ (by omega)]
    generalize Lib.decDigits x.natAbs = D at *
    cases D with
    | nil => exact absurd rfl hne
    | cons c r =>
      have hc := hfig c (by simp)
      have e1 : (c == 45) = false := by
        cases hh : c == 45 with
        | false => rfl
        | true => rw [beq_iff_eq] at hh; subst hh; simp at hc
      have e2 : (c == 43) = false := by
        cases hh : c == 43 with
        | false => rfl
        | true => rw [beq_iff_eq] at hh; subst hh; simp at hc
      simp only [Lib.atoi, Lib.decNat, e1, e2, List.isEmpty_cons, hnum]
      simp only [Bool.false_eq_true, if_false, Option.map_some, Lib.NumEnd.ofOption]
      congr 1; omega
theorem fig_in {b : UInt8} (h1 : 48 ≤ b.toNat) (h2 : b.toNat ≤ 57) : figS.contains b = true := by
  have : ∀ n, n < 58 → 48 ≤ n → figS.contains (UInt8.ofNat n) = true := by decide
  have := this b.toNat (by omega) h1
  rwa [UInt8.ofNat_toNat] at this
theorem itoa_figs (x : Int) : ∀ b ∈ Lib.itoa x, figS.contains b = true := by
  intro b hb
  rw [Lib.itoa] at hb
  split at hb
  · rcases List.mem_cons.1 hb with rfl | hb
    · rfl
    · have := digs_fig _ _ (Nat.le_refl _) b hb
      exact fig_in this.1 this.2
  · have := digs_fig _ _ (Nat.le_refl _) b hb
    exact fig_in this.1 this.2
/-- A number that was written is read, whatever comes behind it but figures. -/
theorem rdNum_itoa {x : Int} (h : x.natAbs < 100000000000000000) {r : List UInt8} (hr : ∀ a b, r = a :: b → figS.contains a = false) : rdNum (Lib.itoa x ++ r) = some (x, r) := by
  obtain ⟨h1, h2⟩ := run_app figS (Lib.itoa x) r (itoa_figs x) hr
  unfold rdNum
  rw [h1, h2, atoi_itoa h]
theorem rdNext_cons (b : UInt8) (r : List UInt8) : rdNext b (b :: r) = some r := by simp [rdNext]
end Go.Proofs.YtjhgmmcglonokaaGreatDoor
