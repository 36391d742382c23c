/-
  A number in decimals, as the model writes it: the digits of Lib.decDigits, in a world that has only grown.
-/
import Derived.Test.YtjhgmmcglonokaaGreatDoorJ1
import Derived.Lib.ItoaNum
import Derived.Laws.BytesArg
import Derived.Deep.RegionWith
namespace Go.Proofs.YtjhgmmcglonokaaGreatDoor
open Go.RowKit
set_option linter.unusedVariables false

def byteStr : Option Value → ByteArray
  | some (.int .u8 d) => ⟨#[UInt8.ofNat d.toNat]⟩
  | _ => ByteArray.empty
def isByte : Option Value → Bool
  | some (.int .u8 _) => true
  | _ => false
theorem conv1 (W : World) (b : Nat) (h : isByte (W.cell? ⟨b, 0, none⟩) = true) : (convert 28 9 (.slice (some ⟨b, 0, none⟩) 1 1)).run Tryz.prog W = .ok (.string (byteStr (W.cell? ⟨b, 0, none⟩))) W := by
  unfold isByte at h
  split at h
  · rename_i d hd
    rw [hd, run_convert_bytes_arg W 28 5 Tryz.underlying28 Tryz.underlying5 b 0 1 1 [d] rfl ?_ 9 Tryz.underlying9]
    · rfl
    · intro i hi
      obtain rfl : i = 0 := by omega
      simpa using hd
  · cases h
theorem isByte_u8 (d : Int) : isByte (some (.int .u8 d)) = true := rfl
theorem byteStr_u8 (d : Int) : byteStr (some (.int .u8 d)) = ⟨#[UInt8.ofNat d.toNat]⟩ := rfl

theorem dec_one {n : Nat} (h : n < 10) : (⟨#[UInt8.ofNat ((48 : Int) + (n : Int)).toNat]⟩ : ByteArray) = ⟨(Lib.decDigits n).toArray⟩ := by
  rw [Lib.decDigits_one h]; congr 1
theorem dec_more2 {n : Nat} (h : ¬ n < 10) : (⟨(Lib.decDigits (n / 10)).toArray⟩ : ByteArray) ++ (⟨#[48 + UInt8.ofNat (n % 10)]⟩ : ByteArray) = ⟨(Lib.decDigits n).toArray⟩ := by
  rw [Lib.decDigits.eq_1 n, dif_neg h]
  apply ByteArray.ext
  simp
theorem dec_len' : ∀ (k n : Nat), n < 10 ^ (k + 1) → (Lib.decDigits n).length ≤ k + 1
  | 0, n, h => by rw [Lib.decDigits_one (by simpa using h)]; simp
  | k + 1, n, h => by
    rw [Lib.decDigits.eq_1 n]
    split
    · simp
    · have := dec_len' k (n / 10) (by rw [Nat.pow_succ] at h; omega)
      simp; omega
theorem dec_len (n : Nat) (h : n ≤ 9223372036854775807) : (Lib.decDigits n).length ≤ 20 := dec_len' 19 n (by omega)
theorem retS {a b : ByteArray} (h : a = b) : Ending.returned (.string a) = .returned (.string b) := by rw [h]

set_option maxHeartbeats 1000000 in
theorem decAt (k : Nat) : ∀ (n : Nat) (w : World), n ≤ k → n ≤ 9223372036854775807 →
    Calls Tryz.prog 103 #[.int .i64 n] w fun e w' => e = .returned (.string ⟨(Lib.decDigits n).toArray⟩) ∧ Below w.heap.size w w' := by
  induction k with
  | zero =>
    intro n w hk hn
    obtain rfl : n = 0 := by omega
    have cv := conv1
    have cb := isByte_u8
    have cs := byteStr_u8
    go_enter Tryz.func103, Tryz.ntmps103
    go_wp2_with fail
    go_ret
    exact ⟨retS (dec_one (n := 0) (by omega)), (Below.refl _ _).alloc (Nat.le_refl _) _⟩
  | succ k ih =>
    intro n w hk hn
    by_cases h10 : n < 10
    · have cv := conv1
      have cb := isByte_u8
      have cs := byteStr_u8
      go_enter Tryz.func103, Tryz.ntmps103
      go_wp2_with fail
      go_ret
      exact ⟨retS (dec_one (by omega)), (Below.refl _ _).alloc (Nat.le_refl _) _⟩
    · have cv := conv1
      have cb := isByte_u8
      have cs := byteStr_u8
      have q1 : IntKind.i64.wrap ((n : Int) / 10) = (n : Int) / 10 := IntWalk.i64_in _ (by omega)
      have q0 : (n : Int).tmod 10 = (n : Int) % 10 := rfl
      have q2 : IntKind.i64.wrap (48 + (n : Int) % 10) = 48 + (n : Int) % 10 := IntWalk.i64_in _ (by omega)
      have q3 : IntKind.u8.wrap (48 + (n : Int) % 10) = 48 + (n : Int) % 10 := IntWalk.u8_in _ (by omega)
      have hl := dec_len (n / 10) (by omega)
      have Ih := Lib.hid ih
      clear ih
      go_enter Tryz.func103, Tryz.ntmps103
      go_wp2_with fail
      go_region_with (go_at_call 103; refine (Ih.out (n / 10) _ ?_ ?_).mono ?_; omega; omega; rintro e w2 ⟨rfl, hb2⟩; have k1 := hb2.cell (p := ⟨w.heap.size, 0, none⟩))
      all_goals
        go_wp2
        go_ret
        refine ⟨retS ?_, ?_⟩
        · exact dec_more2 h10
        · have hz := hb2.size
          first
            | exact (((Below.refl _ _).drew.trans (hb2.mono (by simp))).alloc (by simp at hz ⊢; omega) _)
            | exact ((((Below.refl _ _).alloc (Nat.le_refl _) _).drew).trans (hb2.mono (by simp)))

theorem dec (x : Int) (w : World) (h0 : 0 ≤ x) (h1 : x ≤ 9223372036854775807) :
    Calls Tryz.prog 103 #[.int .i64 x] w fun e w' => e = .returned (.string ⟨(Lib.decDigits x.toNat).toArray⟩) ∧ Below w.heap.size w w' := by
  obtain ⟨n, rfl⟩ := Int.eq_ofNat_of_zero_le h0
  exact decAt n n w (Nat.le_refl _) (by omega)
/-- The digits as a text whose size alone is told. -/
def DecPost (x : Int) (w : World) (e : Ending) (w' : World) : Prop := ∃ s : ByteArray, e = .returned (.string s) ∧ s.size ≤ 20 ∧ Hid (s = ⟨(Lib.decDigits x.toNat).toArray⟩) ∧ Below w.heap.size w w'
theorem decS (x : Int) (w : World) (h0 : 0 ≤ x) (h1 : x ≤ 9223372036854775807) :
    Calls Tryz.prog 103 #[.int .i64 x] w (DecPost x w) :=
  (dec x w h0 h1).mono fun _ _ h => ⟨_, h.1, by have := dec_len x.toNat (by omega); simpa [ByteArray.size] using this, rfl, h.2⟩
theorem bd {a b : World} (h : Below a.heap.size a.drew b) : Below a.heap.size a b := (Below.refl _ _).drew.trans h
end Go.Proofs.YtjhgmmcglonokaaGreatDoor
