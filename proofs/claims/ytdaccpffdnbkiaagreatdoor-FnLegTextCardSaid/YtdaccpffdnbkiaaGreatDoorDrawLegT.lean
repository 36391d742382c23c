/-
  The texts of legs that the laws draw.
-/
import Derived.Test.YtdaccpffdnbkiaaGreatDoorDrawSold
import Derived.Test.YtdaccpffdnbkiaaGreatDoorBendL
import Derived.Test.YtdaccpffdnbkiaaGreatDoorJ32
import Derived.Test.YtdaccpffdnbkiaaGreatDoorJ23
namespace Go.Proofs.YtdaccpffdnbkiaaGreatDoor
open Go.RowKit
set_option linter.unusedVariables false
set_option linter.unusedSimpArgs false

def bendTexts : List ByteArray := [⟨#[32]⟩, ⟨#[44]⟩, ⟨#[48]⟩, ⟨#[49]⟩, ⟨#[120]⟩]
def bendAt (i : Nat) : ByteArray := bendTexts.getD i ByteArray.empty
theorem bendAt_ok (i : Nat) (h : i < 5) : (bendAt i).size = 1 := by
  have : ∀ i, i < 5 → (bendAt i).size = 1 := by decide
  exact this i h
def DrawTextPost (w : World) (e : Ending) (w' : World) : Prop := ∃ t : ByteArray, e = .returned (.string t) ∧ t.size ≤ 5000 ∧ Below w.heap.size w w'
theorem bent_ok {s t : ByteArray} (hs : s.size ≤ 1352) (h : BentOf s 5 bendAt t) : t.size ≤ 5000 := by
  rcases h with rfl | ⟨k, i, hk, hi, rfl⟩
  · omega
  · have b1 := bendAt_ok i hi
    simp only [ByteArray.size_append, ByteArray.size_extract, b1]; omega
theorem legB_size {d : LegD} (h : OkLeg d) : (legB d).size ≤ 1352 := by
  have := legWords_len h.sizes
  simpa [legB, ByteArray.size] using this
theorem fits_ok {d : LegD} (h : OkLeg d) (hH : d.nH ≤ 1048576) : Fits d := by
  have z := h.sizes
  have l1 := z.nL
  have l2 := z.nS
  have l3 := z.sB.1
  exact ⟨Nat.le_trans z.n1 (by omega), Nat.le_trans z.n2 (by omega), Nat.le_trans z.n3 (by omega), by omega, by omega, by omega, hH⟩
theorem holds_few {d : LegD} (h : OkLeg d) : d.nH ≤ 1048576 := by
  obtain ⟨-, -, h3, -⟩ := h
  have := h3.1
  omega
set_option maxRecDepth 100000 in
set_option maxHeartbeats 4000000 in
theorem drawLegT (a0 : Option Addr) (len cap : Nat) (z : List Int) (w : World) (w0 : IsRow .u8 w a0 len cap z) :
    Calls Tryz.prog 10 #[.slice a0 len cap] w (DrawTextPost w) := by
  go_enter Tryz.func10, Tryz.ntmps10
  go_wp2_with fail
  refine (opened a0 len cap z _ w0).mono ?_
  rintro e w1 ⟨rfl, hr1, hb1, hz1⟩
  clear w0
  have HB1 := Lib.hid hb1
  have hzz := hb1.size
  have KD := Lib.hid (drawSold w.heap.size w.heap.size 0 w1 hr1 (by omega))
  clear hr1 hb1
  go_wp2_with fail
  refine KD.out.mono ?_
  rintro e w2 ⟨d, p, rfl, hok, hnew, hrt, hg2⟩
  have HOK := Lib.hid hok.out
  obtain ⟨q2, hq2, hr2⟩ := hrt
  have HR2 := Lib.hid hr2
  have HB2 := Lib.hid (HB1.out.grown hg2 hzz (fun k e => by cases e; exact Nat.le_refl _))
  have KW := Lib.hid (writeS d p w2 hnew.leg (fits_ok hok.out (holds_few hok.out)))
  clear hok hnew hr2 hg2 KD
  unfold LegV at KW ⊢
  go_wp2_with fail
  refine KW.out.mono ?_
  rintro e w3 ⟨o, rfl, ho, hb3⟩
  obtain rfl := ho.out.1 HOK.out
  have hsz := legB_size HOK.out
  have hzw2 : w.heap.size ≤ w2.heap.size := HB2.out.size
  have HB3 := Lib.hid (HB2.out.trans (hb3.mono hzw2))
  have hzw3 : w.heap.size ≤ w3.heap.size := HB3.out.size
  have HR3 := Lib.hid (HR2.out.kept (hb3.mono hzw2) (hb3.block _ HR2.out.le.2))
  have hb3l := HR3.out.le.2
  have HBA := Lib.hid (HB3.out.alloc hzw3 (.cells #[.string ⟨#[32]⟩, .string ⟨#[44]⟩, .string ⟨#[48]⟩, .string ⟨#[49]⟩, .string ⟨#[120]⟩] 9))
  have KB := Lib.hid (bendC w.heap.size w.heap.size q2 5 w3.heap.size 5 3 (legB d) bendAt _ (rd_alloc HR3.out (.cells #[.string ⟨#[32]⟩, .string ⟨#[44]⟩, .string ⟨#[48]⟩, .string ⟨#[49]⟩, .string ⟨#[120]⟩] 9)) (by omega) (by omega) (by omega) (by omega) (by omega) (by omega) (fun i hi => lits_at _ _ rfl bendTexts rfl i hi) (by omega) (fun i hi => by rw [bendAt_ok i hi]; omega))
  clear ho hb3 KW
  go_wp2_with fail
  refine KB.out.mono ?_
  rintro e w4 ⟨t, ht, rfl, hg4⟩
  have t1 := bent_ok hsz ht.out
  have HB4 := Lib.hid (HBA.out.grown hg4 HBA.out.size (fun k e => by cases e; exact Nat.le_refl _))
  clear ht hg4 KB
  go_wp2
  go_ret
  exact ⟨t, rfl, t1, HB4.out⟩
end Go.Proofs.YtdaccpffdnbkiaaGreatDoor
