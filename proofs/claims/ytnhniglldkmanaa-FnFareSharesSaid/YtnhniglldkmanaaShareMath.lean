/-
  Shares of an amount: whole parts, what is left over, and who gets the cents that are left: plain facts.
-/
import Derived.Test.YtnhniglldkmanaaSortMath
namespace Go.Proofs.Ytnhniglldkmanaa
set_option linter.unusedVariables false

def sumF (f : Nat → Int) : Nat → Int
  | 0 => 0
  | k + 1 => sumF f k + f k
theorem sumF_bd {f : Nat → Int} {lo hi : Int} : ∀ n : Nat, (∀ i, i < n → lo ≤ f i ∧ f i ≤ hi) → lo * n ≤ sumF f n ∧ sumF f n ≤ hi * n
  | 0, _ => by simp [sumF]
  | n + 1, h => by
    have ih := sumF_bd n (fun i hi => h i (by omega))
    have := h n (by omega)
    have e1 : lo * ((n + 1 : Nat) : Int) = lo * n + lo := by rw [Int.natCast_add, Int.mul_add]; simp
    have e2 : hi * ((n + 1 : Nat) : Int) = hi * n + hi := by rw [Int.natCast_add, Int.mul_add]; simp
    simp only [sumF]
    omega
theorem sumF_mul {f : Nat → Int} (a : Int) : ∀ n : Nat, sumF (fun i => a * f i) n = a * sumF f n
  | 0 => by simp [sumF]
  | n + 1 => by simp only [sumF]; rw [sumF_mul a n, Int.mul_add]
theorem sumF_add {f g : Nat → Int} : ∀ n : Nat, sumF (fun i => f i + g i) n = sumF f n + sumF g n
  | 0 => by simp [sumF]
  | n + 1 => by simp only [sumF]; rw [sumF_add n]; omega
theorem sumF_congr {f g : Nat → Int} : ∀ n : Nat, (∀ i, i < n → f i = g i) → sumF f n = sumF g n
  | 0, _ => rfl
  | n + 1, h => by simp only [sumF]; rw [sumF_congr n (fun i hi => h i (by omega)), h n (by omega)]

def shQ (A : Int) (z : Nat → Int) (s : Int) (i : Nat) : Int := A * z i / s
def shR (A : Int) (z : Nat → Int) (s : Int) (i : Nat) : Int := A * z i % s
def restF (A : Int) (z : Nat → Int) (s : Int) (n : Nat) : Int := A - sumF (shQ A z s) n

theorem rest_bd {A : Int} {z : Nat → Int} {s : Int} {n : Nat} (hs : 0 < s) (hz : s = sumF z n) : 0 ≤ restF A z s n ∧ (0 < n → restF A z s n < n) := by
  have e1 : sumF (fun i => A * z i) n = A * s := by rw [sumF_mul, ← hz]
  have e2 : sumF (fun i => A * z i) n = s * sumF (shQ A z s) n + sumF (shR A z s) n := by
    rw [← sumF_mul, ← sumF_add]
    exact sumF_congr n fun i _ => (Int.mul_ediv_add_emod (A * z i) s).symm
  have hr := sumF_bd (f := shR A z s) (lo := 0) (hi := s - 1) n (fun i _ => ⟨Int.emod_nonneg _ (by omega), by have := Int.emod_lt_of_pos (A * z i) hs; unfold shR; omega⟩)
  have e3 : s * restF A z s n = sumF (shR A z s) n := by
    unfold restF
    rw [Int.mul_sub, Int.mul_comm s A]; omega
  have h0 : 0 ≤ s * restF A z s n := by rw [e3]; omega
  refine ⟨Int.nonneg_of_mul_nonneg_right h0 hs |> fun h => h, fun hn => ?_⟩
  have h1 : s * restF A z s n < s * n := by
    rw [e3]
    have : (s - 1) * (n : Int) = s * n - n := by rw [Int.sub_mul, Int.one_mul]
    omega
  exact Int.lt_of_mul_lt_mul_left h1 (by omega)

/-- Who got a cent behind c rounds. -/
def got (R : Nat → Nat) : Nat → Nat → Bool
  | 0, _ => false
  | c + 1, i => got R c i || R c == i
theorem got_iff {R : Nat → Nat} {c i : Nat} : got R c i = true ↔ ∃ t, t < c ∧ R t = i := by
  induction c with
  | zero => simp [got]
  | succ c ih =>
    simp only [got, Bool.or_eq_true, beq_iff_eq, ih]
    constructor
    · rintro (⟨t, h1, h2⟩ | h)
      · exact ⟨t, by omega, h2⟩
      · exact ⟨c, by omega, h⟩
    · rintro ⟨t, h1, h2⟩
      by_cases e : t = c
      · right; rw [← e]; exact h2
      · left; exact ⟨t, by omega, h2⟩
def outAt (q : Nat → Int) (R : Nat → Nat) (c i : Nat) : Int := q i + if got R c i then 1 else 0
def leftAt (l : Nat → Int) (R : Nat → Nat) (c i : Nat) : Int := if got R c i then -1 else l i

theorem InOrder.inj {n : Nat} {l : Nat → Int} {R : Nat → Nat} (h : InOrder n l R) {i j : Nat} (hij : i < j) (hj : j < n) : R i ≠ R j := by
  intro e
  rcases h.asc i j hij hj with h1 | h1
  · rw [e] at h1; omega
  · omega
theorem not_got {n : Nat} {l : Nat → Int} {R : Nat → Nat} (h : InOrder n l R) {t : Nat} (ht : t < n) : got R t (R t) = false := by
  cases e : got R t (R t) with
  | false => rfl
  | true =>
    obtain ⟨u, h1, h2⟩ := got_iff.1 e
    exact absurd h2 (h.inj h1 ht)
theorem best_is {n : Nat} {l : Nat → Int} {R : Nat → Nat} {t b : Nat} (h : InOrder n l R) (hl : ∀ i, i < n → 0 ≤ l i) (ht : t < n) (hb : b < n)
    (hmax : ∀ j, j < n → leftAt l R t j ≤ leftAt l R t b) (hfirst : ∀ j, j < b → leftAt l R t j < leftAt l R t b) : b = R t := by
  have h1 := hmax (R t) (h.lt t ht)
  have e1 : leftAt l R t (R t) = l (R t) := by unfold leftAt; rw [not_got h ht]; rfl
  have p1 := hl (R t) (h.lt t ht)
  rw [e1] at h1
  have hng : got R t b = false := by
    cases e : got R t b with
    | false => rfl
    | true => unfold leftAt at h1; rw [e] at h1; simp at h1; omega
  have e2 : leftAt l R t b = l b := by unfold leftAt; rw [hng]; rfl
  obtain ⟨u, hu, hub⟩ := h.onto b hb
  rcases Nat.lt_trichotomy u t with hlt | heq | hgt
  · have := got_iff.2 ⟨u, hlt, hub⟩
    rw [hng] at this; cases this
  · rw [← hub, heq]
  · rcases h.asc t u hgt hu with h2 | ⟨h2, h3⟩
    · rw [hub] at h2; omega
    · rw [hub] at h2 h3
      have := hfirst (R t) h3
      rw [e1, e2] at this
      omega
theorem out_step {q : Nat → Int} {n : Nat} {l : Nat → Int} {R : Nat → Nat} (h : InOrder n l R) {t : Nat} (ht : t < n) (i : Nat) :
    outAt q R (t + 1) i = if i = R t then outAt q R t i + 1 else outAt q R t i := by
  unfold outAt
  by_cases e : i = R t
  · subst e
    rw [if_pos rfl, not_got h ht]
    simp [got]
  · rw [if_neg e]
    have : got R (t + 1) i = got R t i := by simp only [got]; rw [show (R t == i) = false from by simp; omega, Bool.or_false]
    rw [this]
theorem left_step {l : Nat → Int} {R : Nat → Nat} {t : Nat} (i : Nat) : leftAt l R (t + 1) i = if i = R t then -1 else leftAt l R t i := by
  unfold leftAt
  by_cases e : i = R t
  · subst e; simp [got]
  · rw [if_neg e]
    have : got R (t + 1) i = got R t i := by simp only [got]; rw [show (R t == i) = false from by simp; omega, Bool.or_false]
    rw [this]
end Go.Proofs.Ytnhniglldkmanaa
