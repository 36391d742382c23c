/-
  Drawn programs and texts of programs (DrawVmOk, DrawVmWrite, DrawVmRead).
-/
import Derived.Test.YtjhgmmcglonokaaGreatDoorBentCode
import Derived.Test.YtjhgmmcglonokaaGreatDoorBendV
import Derived.Test.YtjhgmmcglonokaaGreatDoorJ32
namespace Go.Proofs.YtjhgmmcglonokaaGreatDoor
open Go.RowKit
set_option linter.unusedVariables false
set_option linter.unusedSimpArgs false

def DrawnVO (w : World) (e : Ending) (w' : World) : Prop := ∃ (a : Option Addr) (n c : Nat) (ds : List Pl), e = .returned (.slice a n c) ∧ n = ds.length ∧ CodeW w.heap.size w' (.slice a n c) ds ∧ SmW ds 101 ∧ Below w.heap.size w w'
set_option maxRecDepth 100000 in
set_option maxHeartbeats 16000000 in
theorem drawVmOk (a0 : Option Addr) (len cap : Nat) (z : List Int) (w : World) (w0 : IsRow .u8 w a0 len cap z) :
    Calls Tryz.prog 47 #[.slice a0 len cap] w (DrawnVO w) := by
  have HO := Lib.hid (opened a0 len cap z w w0)
  clear w0
  go_enter Tryz.func47, Tryz.ntmps47
  go_wp2_with fail
  refine HO.out.mono ?_
  rintro e w1 ⟨rfl, hr1, hb1, hs1⟩
  have HR1 := Lib.hid hr1
  have HB1 := Lib.hid hb1
  have hb0 : Hid (w.heap.size < w1.heap.size) := Lib.hid hr1.le.2
  clear hr1 hb1 HO hs1
  go_wp2_with fail
  refine (drawCode w.heap.size 0 w1 HR1.out (by omega)).mono ?_
  rintro e w2 ⟨a, n, c, ds, p2, rfl, hn, hc, hs, hr2, hp2, hg2⟩
  have HN := Lib.hid hn
  have HC2 := Lib.hid hc
  have HS := Lib.hid hs
  have HR2 := Lib.hid hr2
  have HG2 := Lib.hid hg2
  clear hn hc hs hr2 hg2 HR1
  go_wp2_with fail
  refine (pick w.heap.size w.heap.size p2 2 _ HR2.out (by omega) (by omega) (by omega)).mono ?_
  rintro e w3 ⟨x3, l3, u3, rfl, hr3, hg3, -⟩
  have HR3 := Lib.hid hr3
  have HC3 : Hid (CodeW w1.heap.size w3 (.slice a n c) ds) := Lib.hid (HC2.out.grown hg3 (fun k e => by cases e; exact hb0.out))
  have HG3 : Hid (w1.grownBy w3 (some w.heap.size)) := Lib.hid (grown_trans HG2.out hg3)
  clear hr3 hg3 HR2 HC2 HG2
  have hbB : w.heap.size < w1.heap.size := hb0.out
  cases hx3 : (x3 == 0) with
  | false =>
    have HX3 := Lib.hid hx3
    have HS1 := Lib.hid HS.out.up
    have HB8 : Hid (Below w.heap.size w w3) := Lib.hid (HB1.out.grown HG3.out (Nat.le_of_lt hbB) (fun k e => by cases e; exact Nat.le_refl _))
    go_wp2
    go_ret
    exact ⟨a, n, c, ds, rfl, HN.out, HC3.out.mono (Nat.le_of_lt hbB), HS1.out, HB8.out⟩
  | true =>
    have HX3 := Lib.hid hx3
    go_wp2_with fail
    refine (bentCode w.heap.size (p2 + 1) w1.heap.size a n c ds w3 HR3.out (by omega) HG3.out.size hb0.out HC3.out HN.out HS.out).mono ?_
    rintro e w4 ⟨a4, n4, c4, d4, p4, rfl, hn4, hc4, hs4, hr4, hp4, hg4⟩
    have HN4 := Lib.hid hn4
    have HC4 := Lib.hid hc4
    have HS4 := Lib.hid hs4
    have HB8 : Hid (Below w.heap.size w w4) := Lib.hid (HB1.out.grown (grown_trans HG3.out hg4) (Nat.le_of_lt hbB) (fun k e => by cases e; exact Nat.le_refl _))
    clear hn4 hc4 hs4 hr4 hg4 HR3 HC3 HG3
    go_wp2
    go_ret
    exact ⟨a4, n4, c4, d4, rfl, HN4.out, HC4.out.mono (Nat.le_of_lt hbB), HS4.out, HB8.out⟩
set_option maxHeartbeats 4000000 in
theorem drawVmWrite (a0 : Option Addr) (len cap : Nat) (z : List Int) (w : World) (w0 : IsRow .u8 w a0 len cap z) :
    Calls Tryz.prog 15 #[.slice a0 len cap] w (DrawnVO w) := by
  have HO := Lib.hid (drawVmOk a0 len cap z w w0)
  clear w0
  go_enter Tryz.func15, Tryz.ntmps15
  go_wp2_with fail
  refine HO.out.mono ?_
  rintro e w1 ⟨a, n, c, ds, rfl, hn, hc, hs, hb⟩
  have HN := Lib.hid hn
  have HC := Lib.hid hc
  have HS := Lib.hid hs
  have HB := Lib.hid hb
  clear hn hc hs hb HO
  go_wp2
  go_ret
  exact ⟨a, n, c, ds, rfl, HN.out, HC.out, HS.out, HB.out⟩
def vmTexts : List ByteArray := [⟨#[]⟩, ⟨#[112, 117, 115, 104, 32, 49, 10]⟩, ⟨#[112, 117, 115, 104, 32, 49]⟩, ⟨#[97, 100, 100, 10]⟩, ⟨#[112, 117, 115, 104, 32, 49, 10, 112, 117, 115, 104, 32, 50, 10]⟩, ⟨#[112, 117, 115, 104, 32, 49, 10, 112, 117, 115, 104, 32, 50, 10, 97, 100, 100, 10]⟩, ⟨#[115, 107, 105, 112, 32, 48, 10]⟩, ⟨#[112, 117, 115, 104, 32, 48, 49, 10]⟩, ⟨#[108, 111, 97, 100, 32, 97, 10, 116, 105, 101, 114, 115, 32, 48, 58, 49, 10]⟩, ⟨#[108, 111, 97, 100, 32, 65, 10]⟩]
def vmText' (i : Nat) : ByteArray := vmTexts.getD i ByteArray.empty
theorem vmText_size (i : Nat) (h : i < 10) : (vmText' i).size ≤ 100 := by
  have : ∀ i, i < 10 → (vmText' i).size ≤ 100 := by decide
  exact this i h
def vmBends : List ByteArray := [⟨#[32]⟩, ⟨#[10]⟩, ⟨#[49]⟩, ⟨#[120]⟩]
def vmBend (i : Nat) : ByteArray := vmBends.getD i ByteArray.empty
theorem vmBend_size (i : Nat) (h : i < 4) : (vmBend i).size ≤ 50 := by
  have : ∀ i, i < 4 → (vmBend i).size ≤ 50 := by decide
  exact this i h
theorem writeV_size (ds : List Pl) : (writeV ds).size ≤ 1600 := by
  unfold writeV
  split
  · rename_i h
    have e : (textVB ds).size = (textV ds).length := by simp [textVB, ByteArray.size]
    rw [e]; exact h.2.2
  · show 0 ≤ 1600; omega
theorem bentV_size {s t : ByteArray} (hs : s.size ≤ 1600) (h : BentOf s 4 vmBend t) : t.size ≤ 10000 := by
  rcases h with rfl | ⟨k, i, hk, hi, rfl⟩
  · omega
  · have := vmBend_size i hi
    simp only [ByteArray.size_append, ByteArray.size_extract]; omega
def DrawnVT (w : World) (e : Ending) (w' : World) : Prop := ∃ t : ByteArray, e = .returned (.string t) ∧ t.size ≤ 10000 ∧ Below w.heap.size w w'
set_option maxRecDepth 100000 in
set_option maxHeartbeats 16000000 in
theorem drawVmRead (a0 : Option Addr) (len cap : Nat) (z : List Int) (w : World) (w0 : IsRow .u8 w a0 len cap z) :
    Calls Tryz.prog 12 #[.slice a0 len cap] w (DrawnVT w) := by
  have HO := Lib.hid (opened a0 len cap z w w0)
  clear w0
  go_enter Tryz.func12, Tryz.ntmps12
  go_wp2_with fail
  refine HO.out.mono ?_
  rintro e w1 ⟨rfl, hr1, hb1, hs1⟩
  have HR1 := Lib.hid hr1
  have HB1 := Lib.hid hb1
  have hbB : w.heap.size < w1.heap.size := hr1.le.2
  clear hr1 hb1 HO hs1
  go_wp2_with fail
  refine (pick w.heap.size w.heap.size 0 8 _ HR1.out (by omega) (by omega) (by omega)).mono ?_
  rintro e w2 ⟨x2, l2, u2, rfl, hr2, hg2, -⟩
  have HR2 := Lib.hid hr2
  have HG2 := Lib.hid hg2
  have hz2 := hg2.size
  clear hr2 hg2 HR1
  cases hx2 : (x2 == 0) with
  | true =>
    have HX := Lib.hid hx2
    have hlb : w2.heap.size ≠ w.heap.size := by omega
    go_wp2_with fail
    refine (pickOf w.heap.size w.heap.size _ 10 w2.heap.size 10 vmText' _ (rd_alloc HR2.out _) (by omega) (by omega) (by omega) (fun i hi => lits_at _ _ rfl vmTexts rfl i hi) hlb).mono ?_
    rintro e w3 ⟨i, hi, rfl, hr3, hg3, -⟩
    have Hs := Lib.hid (vmText_size i hi)
    have HB3 := Lib.hid ((((HB1.out.grown HG2.out (Nat.le_of_lt hbB) (fun k e => by cases e; exact Nat.le_refl _)).alloc (by omega) _)).grown hg3 (by simp only [World.size_alloc]; omega) (fun k e => by cases e; exact Nat.le_refl _))
    clear hr3 hg3 hi
    generalize vmText' i = t at *
    go_wp2
    go_ret
    exact ⟨t, rfl, by have := Hs.out; omega, HB3.out⟩
  | false =>
    have HX := Lib.hid hx2
    go_wp2_with fail
    refine (drawCode w.heap.size _ w2 HR2.out (by omega)).mono ?_
    rintro e w3 ⟨a, n, c, ds, p3, rfl, hn, hc, hs, hr3, hp3, hg3⟩
    subst hn
    have HPL := Lib.hid (codeW_pls hc rfl)
    have HR3 := Lib.hid hr3
    have HG3 := Lib.hid (grown_trans HG2.out hg3)
    have hz3 := hg3.size
    have h100 := hs.1
    have KW := Lib.hid (specVmWrite a ds.length c ds w3 HPL.out hs.small (by omega))
    unfold WriteVP at KW
    have HWS := Lib.hid (writeV_size ds)
    clear hc hs hr3 hg3 HR2 HG2
    go_wp2_with fail
    refine KW.out.mono ?_
    rintro e w4 ⟨rfl, hb4⟩
    have HR4 := Lib.hid (HR3.out.kept (hb4.mono (by omega)) (hb4.block _ HR3.out.le.2))
    have hz4 := hb4.size
    have HB4 := Lib.hid ((HB1.out.grown HG3.out (Nat.le_of_lt hbB) (fun k e => by cases e; exact Nat.le_refl _)).trans (hb4.mono (by omega)))
    clear hb4 HR3 HG3 KW
    generalize writeV ds = tx at *
    have htx := HWS.out
    have hlb : w4.heap.size ≠ w.heap.size := by omega
    have KB := Lib.hid (bendC w.heap.size w.heap.size p3 4 w4.heap.size 4 4 tx vmBend _ (rd_alloc HR4.out (.cells #[.string ⟨#[32]⟩, .string ⟨#[10]⟩, .string ⟨#[49]⟩, .string ⟨#[120]⟩] 9)) (by omega) (by omega) (by omega) (by omega) (by omega) (by omega) (fun i hi => lits_at _ _ rfl vmBends rfl i hi) hlb vmBend_size)
    have HBA := Lib.hid (HB4.out.alloc (show w.heap.size ≤ w4.heap.size by omega) (.cells #[.string ⟨#[32]⟩, .string ⟨#[10]⟩, .string ⟨#[49]⟩, .string ⟨#[120]⟩] 9))
    go_wp2_with fail
    refine KB.out.mono ?_
    rintro e w5 ⟨t, ht, rfl, hg5⟩
    have hts := bentV_size htx ht.out
    have HB5 := Lib.hid (HBA.out.grown hg5 HBA.out.size (fun k e => by cases e; exact Nat.le_refl _))
    clear ht hg5 KB
    go_wp2
    go_ret
    exact ⟨t, rfl, hts, HB5.out⟩
end Go.Proofs.YtjhgmmcglonokaaGreatDoor
