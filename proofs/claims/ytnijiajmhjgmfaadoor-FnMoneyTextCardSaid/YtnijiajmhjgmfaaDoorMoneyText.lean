/-
  What an amount is written as, by the model and by the program: the same bytes, in a world that has only grown.
-/
import Derived.Test.YtnijiajmhjgmfaaDoorMoney
import Derived.Test.YtnijiajmhjgmfaaDoorDec
import Derived.Test.YtnijiajmhjgmfaaDoorDoor3
import Derived.Test.YtnijiajmhjgmfaaDoorShelf
import Derived.Lib.SmallJoins
namespace Go.Proofs.YtnijiajmhjgmfaaDoor
open Go.RowKit
set_option linter.unusedVariables false

def centsStr (u : Nat) : List UInt8 := Lib.decDigits (u / 100) ++ [46] ++ Lib.decDigits (u / 10 % 10) ++ Lib.decDigits (u % 10)
def moneyStr (n : Int) : List UInt8 := if n < 0 then 45 :: centsStr n.natAbs else centsStr n.natAbs

theorem cents_eq {u : Nat} {a b c : ByteArray} (ha : Hid (a = ⟨(Lib.decDigits ((u : Int) / 100).toNat).toArray⟩)) (hb : Hid (b = ⟨(Lib.decDigits ((u : Int) % 100 / 10).toNat).toArray⟩)) (hc : Hid (c = ⟨(Lib.decDigits ((u : Int) % 10).toNat).toArray⟩)) :
    a ++ ⟨#[46]⟩ ++ b ++ c = (⟨(centsStr u).toArray⟩ : ByteArray) := by
  rw [ha.out, hb.out, hc.out, show ((u : Int) / 100).toNat = u / 100 from by omega, show ((u : Int) % 100 / 10).toNat = u / 10 % 10 from by omega, show ((u : Int) % 10).toNat = u % 10 from by omega]
  apply ByteArray.ext
  simp [centsStr]
theorem cents_eq' {u : Nat} {a b c : ByteArray} (ha : Hid (a = ⟨(Lib.decDigits ((u : Int) / 100).toNat).toArray⟩)) (hb : Hid (b = ⟨(Lib.decDigits ((u : Int) / 10 % 10).toNat).toArray⟩)) (hc : Hid (c = ⟨(Lib.decDigits ((u : Int) % 10).toNat).toArray⟩)) :
    a ++ ⟨#[46]⟩ ++ b ++ c = (⟨(centsStr u).toArray⟩ : ByteArray) := by
  rw [ha.out, hb.out, hc.out, show ((u : Int) / 100).toNat = u / 100 from by omega, show ((u : Int) / 10 % 10).toNat = u / 10 % 10 from by omega, show ((u : Int) % 10).toNat = u % 10 from by omega]
  apply ByteArray.ext
  simp [centsStr]
theorem money_pos (u : Nat) : (⟨(centsStr u).toArray⟩ : ByteArray) = ⟨(moneyStr (u : Int)).toArray⟩ := by
  rw [moneyStr, if_neg (by omega)]; simp
theorem money_neg {u : Nat} (h : 0 < u) : (⟨#[45]⟩ : ByteArray) ++ ⟨(centsStr u).toArray⟩ = (⟨(moneyStr (-(u : Int))).toArray⟩ : ByteArray) := by
  rw [moneyStr, if_pos (by omega)]
  apply ByteArray.ext
  simp

theorem sz46 : (⟨#[46]⟩ : ByteArray).size = 1 := rfl
theorem sz45 : (⟨#[45]⟩ : ByteArray).size = 1 := rfl
theorem sz0 : (⟨#[]⟩ : ByteArray).size = 0 := rfl
theorem empty_append (a b c d : ByteArray) : (⟨#[]⟩ : ByteArray) ++ a ++ b ++ c ++ d = a ++ b ++ c ++ d := by
  apply ByteArray.ext; simp

def MoneyPost (n : Int) (w : World) (e : Ending) (w' : World) : Prop := ∃ s : ByteArray, e = .returned (.string s) ∧ s.size ≤ 70 ∧ Hid (s = ⟨(moneyStr n).toArray⟩) ∧ Below w.heap.size w w'
def CentsPost (u : Nat) (w : World) (e : Ending) (w' : World) : Prop := ∃ s : ByteArray, e = .returned (.string s) ∧ s.size ≤ 61 ∧ Hid (s = ⟨(centsStr u).toArray⟩) ∧ Below w.heap.size w w'

set_option maxHeartbeats 1000000 in
theorem specCents (u : Nat) (w : World) (hu : u ≤ 1000000000000) :
    Calls Tryd.prog 13 #[.int .i64 u] w (CentsPost u w) := by
  go_enter Tryd.func13, Tryd.ntmps13
  go_wp2_with fail
  refine (decS _ _ (by omega) (by omega)).mono ?_
  rintro e w2 ⟨s2, rfl, hl2, he2, hb2⟩
  go_wp2_with fail
  refine (decS _ _ (by omega) (by omega)).mono ?_
  rintro e w3 ⟨s3, rfl, hl3, he3, hb3⟩
  go_wp2_with fail
  refine (decS _ _ (by omega) (by omega)).mono ?_
  rintro e w4 ⟨s4, rfl, hl4, he4, hb4⟩
  go_wp2_with fail
  go_ret
  refine ⟨_, rfl, ?_, cents_eq he2 he3 he4, bt (bt hb2 hb3) hb4⟩
  have z1 := sz46; have z2 := sz45; have z3 := sz0; simp only [ByteArray.size_append]; omega

set_option maxHeartbeats 1000000 in
theorem specMoneyStr (n : Int) (w : World) (h0 : -1000000000000 ≤ n) (h1 : n ≤ 1000000000000) :
    Calls Tryd.prog 13 #[.int .i64 n] w (MoneyPost n w) := by
  by_cases hn : n < 0
  · obtain ⟨u, hu⟩ := Int.eq_ofNat_of_zero_le (show 0 ≤ -n by omega)
    obtain rfl : n = -(u : Int) := by omega
    have hu1 : u ≤ 1000000000000 := by omega
    have hu0 : 0 < u := by omega
    clear hu
    go_enter Tryd.func13, Tryd.ntmps13
    go_wp2_with fail
    refine (specCents u _ hu1).mono ?_
    rintro e w2 ⟨s2, rfl, hl2, he2, hb2⟩
    go_wp2_with fail
    go_ret
    refine ⟨_, rfl, ?_, ?_, hb2⟩
    · have z1 := sz46; have z2 := sz45; have z3 := sz0; simp only [ByteArray.size_append]; omega
    · show _ = _
      rw [he2.out]; exact money_neg hu0
  · obtain ⟨u, rfl⟩ := Int.eq_ofNat_of_zero_le (show 0 ≤ n by omega)
    refine (specCents u w (by omega)).mono ?_
    rintro e w2 ⟨s2, rfl, hl2, he2, hb2⟩
    exact ⟨_, rfl, by omega, he2.out.trans (money_pos u), hb2⟩

theorem below_grow (w : World) (k : Nat) (os : Array Obj) : Below w.heap.size w (Sort.grow (w.drewN k) os) :=
  ⟨rfl, rfl, rfl, by simp [Sort.grow, World.drewN], fun i hi => by
    show (w.heap ++ os)[i]? = _
    rw [Array.getElem?_append_left hi]⟩
theorem laid_stays {w w' : World} (h : Laid w) (hb : Below w.heap.size w w') : Laid w' := Joins.tab_stays gTab h hb (Nat.le_refl _)

def ItoaPost (x : Int) (w : World) (e : Ending) (w' : World) : Prop := ∃ s : ByteArray, e = .returned (.string s) ∧ s.size ≤ 20 ∧ Hid (s = ⟨(Lib.decDigits x.toNat).toArray⟩) ∧ Below w.heap.size w w' ∧ Laid w'
theorem itoaS (x : Int) (w : World) (hL : Laid w) (h0 : 0 ≤ x) (h1 : x ≤ 9223372036854775807) :
    Calls Tryd.prog 27 #[.int .i64 x] w (ItoaPost x w) :=
  (Tryd.strconv_Itoa x (by omega) h1 w hL).mono fun e w' h => by
    obtain ⟨rfl, k, os, rfl⟩ := h
    have e1 : Lib.itoa x = Lib.decDigits x.toNat := by rw [Lib.itoa, if_neg (by omega)]
    refine ⟨_, rfl, ?_, by rw [e1]; rfl, below_grow w k os, laid_stays hL (below_grow w k os)⟩
    rw [e1]
    have := dec_len x.toNat (by omega)
    simpa [ByteArray.size] using this

set_option maxHeartbeats 1000000 in
theorem implMoneyStr (n : Int) (w : World) (hL : Laid w) (h0 : -1000000000000 ≤ n) (h1 : n ≤ 1000000000000) :
    Calls Tryd.prog 15 #[.int .i64 n] w (MoneyPost n w) := by
  by_cases hn : n < 0
  · obtain ⟨u, hu⟩ := Int.eq_ofNat_of_zero_le (show 0 ≤ -n by omega)
    obtain rfl : n = -(u : Int) := by omega
    have hu1 : u ≤ 1000000000000 := by omega
    have hu0 : 0 < u := by omega
    clear hu
    go_enter Tryd.func15, Tryd.ntmps15
    go_wp2_with fail
    refine (itoaS _ _ hL (by omega) (by omega)).mono ?_
    rintro e w2 ⟨s2, rfl, hl2, he2, hb2, hL2⟩
    go_wp2_with fail
    refine (itoaS _ _ hL2 (by omega) (by omega)).mono ?_
    rintro e w3 ⟨s3, rfl, hl3, he3, hb3, hL3⟩
    go_wp2_with fail
    refine (itoaS _ _ hL3 (by omega) (by omega)).mono ?_
    rintro e w4 ⟨s4, rfl, hl4, he4, hb4, hL4⟩
    go_wp2_with fail
    go_ret
    refine ⟨_, rfl, ?_, ?_, bt (bt hb2 hb3) hb4⟩
    · have z1 := sz46; have z2 := sz45; have z3 := sz0; simp only [ByteArray.size_append]; omega
    · show _ = _
      rw [← money_neg hu0, ← cents_eq' he2 he3 he4]
      simp [ByteArray.append_assoc]
  · obtain ⟨u, rfl⟩ := Int.eq_ofNat_of_zero_le (show 0 ≤ n by omega)
    have hu1 : u ≤ 1000000000000 := by omega
    go_enter Tryd.func15, Tryd.ntmps15
    go_wp2_with fail
    refine (itoaS _ _ hL (by omega) (by omega)).mono ?_
    rintro e w2 ⟨s2, rfl, hl2, he2, hb2, hL2⟩
    go_wp2_with fail
    refine (itoaS _ _ hL2 (by omega) (by omega)).mono ?_
    rintro e w3 ⟨s3, rfl, hl3, he3, hb3, hL3⟩
    go_wp2_with fail
    refine (itoaS _ _ hL3 (by omega) (by omega)).mono ?_
    rintro e w4 ⟨s4, rfl, hl4, he4, hb4, hL4⟩
    go_wp2_with fail
    go_ret
    refine ⟨_, rfl, ?_, ?_, bt (bt hb2 hb3) hb4⟩
    · have z1 := sz46; have z2 := sz45; have z3 := sz0; simp only [ByteArray.size_append]; omega
    · show _ = _
      rw [← money_pos, ← cents_eq' he2 he3 he4]
      rw [empty_append]
end Go.Proofs.YtnijiajmhjgmfaaDoor
