/-
  The sum of a text, by the program.
-/
import Derived.Test.YtiganhkmnklhlaaDoorShaFig
namespace Go.Proofs.YtiganhkmnklhlaaDoor
open Go.RowKit
set_option linter.unusedVariables false

def st0 : S8 := ⟨1779033703, 3144134277, 1013904242, 2773480762, 1359893119, 2600822924, 528734635, 1541459225⟩
theorem bt' {a b c : World} (h : Below a.heap.size a b) (k : Below b.heap.size b c) : Below a.heap.size a c := h.trans (k.mono h.size)
theorem sizeSt : (Tryd.prog.info? 79).map (·.size) = some 8 := by kernel_rfl

set_option maxRecDepth 100000 in
set_option maxHeartbeats 4000000 in
theorem startS (w : World) : Calls Tryd.prog 45 #[] w fun e w' => e = .returned (.agg st0.arr) ∧ Below w.heap.size w w' := by
  have hset : ∀ c c' : Array Value, ((w.alloc (.cells c 79)).setRow w.heap.size c') = w.alloc (.cells c' 79) := fun c c' => World.setRow_alloc_new w c c' _
  go_enter Tryd.func45, Tryd.ntmps45
  go_wp2_with (refine wpList_store_row rfl 79 _ _ rfl w.heap.size st0.arr rfl rfl 79 zeros8 (heap_alloc_last w _) sizeSt rfl (one8 st0) ?_; rw [hset])
  refine bodyPost_ret (v := .agg st0.arr) (results_cell_row rfl _ _ w.heap.size 79 st0.arr (0, 0) _ rfl (heap_alloc_last w _) Tryd.underlying79 rfl sizeSt) rfl ⟨rfl, (Below.refl _ _).alloc (Nat.le_refl _) _⟩

theorem at_mod {x y : S8} (m : Nat) : 0 ≤ (x.add y).at m ∧ (x.add y).at m < 4294967296 := by
  have : m = 0 ∨ m = 1 ∨ m = 2 ∨ m = 3 ∨ m = 4 ∨ m = 5 ∨ m = 6 ∨ 7 ≤ m := by omega
  rcases this with rfl | rfl | rfl | rfl | rfl | rfl | rfl | h
  · simp only [S8.add, S8.at]; omega
  · simp only [S8.add, S8.at]; omega
  · simp only [S8.add, S8.at]; omega
  · simp only [S8.add, S8.at]; omega
  · simp only [S8.add, S8.at]; omega
  · simp only [S8.add, S8.at]; omega
  · simp only [S8.add, S8.at]; omega
  · obtain ⟨k, rfl⟩ := Nat.exists_eq_add_of_le h
    rw [show 7 + k = k + 7 from by omega]
    simp only [S8.add, S8.at]; omega
theorem ok_block (st : S8) (t : List UInt8) : (blockS st t).Ok := fun m => at_mod m
theorem ok_blocks (st : S8) (t : List UInt8) {n : Nat} (h : 0 < n) : (blocksTo st t n).Ok := by
  cases n with
  | zero => omega
  | succ n => exact ok_block _ _

/-- A text with what comes behind it. -/
def padded (t : List UInt8) : List UInt8 := t ++ tailL t.length (t.length * 8)
def nBlocks (n : Nat) : Nat := (n + (1 + padZ n) + 8) / 64
theorem tailL_len (n b : Nat) : (tailL n b).length = 1 + padZ n + 8 := by rw [tailL, List.length_append, tail0_len]; rfl
theorem nBlocks_is (n : Nat) : n + (1 + padZ n + 8) = 64 * nBlocks n := by unfold nBlocks padZ; omega
theorem padZ_mod (n k : Nat) : padZ (n - 64 * k) = padZ n ∨ n < 64 * k := by unfold padZ; omega
def sumS (t : List UInt8) : S8 := blocksTo st0 (padded t) (nBlocks t.length)
def hashS (t : List UInt8) : List UInt8 := hexTo (sumS t) 8
theorem hashS_len (t : List UInt8) : (hashS t).length = 64 := hexTo_len _ 8
theorem sumS_ok (t : List UInt8) : (sumS t).Ok := ok_blocks _ _ (by have := nBlocks_is t.length; omega)

set_option maxRecDepth 100000 in
set_option maxHeartbeats 8000000 in
theorem implSum (t : ByteArray) (w : World) (hs : t.size ≤ 1048600) (hK : LaidK w) :
    Calls Tryd.prog 34 #[.string t] w fun e w' => e = .returned (.string ⟨(hashS t.data.toList).toArray⟩) ∧ Below w.heap.size w w' := by
  have hlen : t.data.toList.length = t.size := by simp
  obtain ⟨n1, hn1⟩ : ∃ n1 : Nat, n1 = t.size / 64 := ⟨_, rfl⟩
  obtain ⟨m, hm⟩ : ∃ m : Nat, m = 64 * n1 := ⟨_, rfl⟩
  have q1 : IntKind.i64.wrap ((t.size : Int) - (t.size : Int) % 64) = (m : Int) := by rw [IntWalk.i64_in _ (by omega)]; omega
  have i1 : (m : Int) ≤ (t.size : Int) := by omega
  have i2 : (0 : Int) ≤ (m : Int) := by omega
  have hA : (t.extract 0 m).size = 64 * n1 := by rw [ByteArray.size_extract]; omega
  have hR : (t.extract m t.size).size ≤ 63 := by rw [ByteArray.size_extract]; omega
  have hRs : (t.extract m t.size).size = t.size - m := by rw [ByteArray.size_extract]; omega
  have hAl : (t.extract 0 m).data.toList = t.data.toList.take m := by rw [Lib.extract_data, List.drop_zero, Nat.sub_zero]
  have hRl : (t.extract m t.size).data.toList = t.data.toList.drop m := by
    rw [Lib.extract_data]
    exact List.take_of_length_le (by rw [List.length_drop, hlen]; exact Nat.le_refl _)
  have hpz : padZ (t.size - m) = padZ t.size := by
    rcases padZ_mod t.size n1 with h | h
    · rw [hm]; exact h
    · omega
  obtain ⟨n2, hn2⟩ : ∃ n2, n2 = nBlocks t.size - n1 := ⟨_, rfl⟩
  have hnb := nBlocks_is t.size
  have hn2' : n1 + n2 = nBlocks t.size := by omega
  have hT : t.data.toList.drop m ++ tailL (t.size - m) (t.size * 8) = t.data.toList.drop m ++ tailL t.size (t.size * 8) := by rw [tailL, tailL, hpz]
  have hTs : (⟨((t.extract m t.size).data.toList ++ tailL (t.extract m t.size).size (t.size * 8)).toArray⟩ : ByteArray).size = 64 * n2 := by
    show ((t.extract m t.size).data.toList ++ tailL (t.extract m t.size).size (t.size * 8)).toArray.size = _
    rw [List.size_toArray, List.length_append, tailL_len, hRs, hpz, hRl, List.length_drop, hlen]; omega
  have hfin : blocksTo (blocksTo st0 (t.extract 0 m).data.toList n1) ((t.extract m t.size).data.toList ++ tailL (t.extract m t.size).size (t.size * 8)) n2 = sumS t.data.toList := by
    rw [hAl, hRl, hRs, hT, ← blocks_app st0 _ _ n1 (by rw [List.length_take, hlen]; omega) n2 (by rw [List.length_append, tailL_len, List.length_drop, hlen]; omega), hn2', sumS, padded, hlen, ← List.append_assoc, List.take_append_drop]
  obtain ⟨tl, htl⟩ : ∃ tl : ByteArray, tl = ⟨((t.extract m t.size).data.toList ++ tailL (t.extract m t.size).size (t.size * 8)).toArray⟩ := ⟨_, rfl⟩
  obtain ⟨sA, hsA⟩ : ∃ sA, sA = blocksTo st0 (t.extract 0 m).data.toList n1 := ⟨_, rfl⟩
  have htll : tl.data.toList = (t.extract m t.size).data.toList ++ tailL (t.extract m t.size).size (t.size * 8) := by rw [htl]
  rw [← htl] at hTs
  rw [← hsA, ← htll] at hfin
  have HTL := Lib.hid htl
  clear htll htl
  have hb18 : n1 ≤ 100000 := by omega
  have hb28 : n2 ≤ 100000 := by have := padZ_lt t.size; omega
  have HA := Lib.hid hA
  have HR := Lib.hid hR
  have HTs := Lib.hid hTs
  have HF := Lib.hid hfin
  have HN := Lib.hid hn2
  clear hlen hm hA hR hRs hAl hRl hpz hn2 hnb hn2' hT hTs hfin hn1
  go_enter Tryd.func34, Tryd.ntmps34
  go_wp2_with fail
  refine (startS _).mono ?_
  rintro e w1 ⟨rfl, hb1⟩
  have hK1 := laidK_stays hK hb1
  have hset : ∀ c c' : Array Value, ((w1.alloc (.cells c 79)).setRow w1.heap.size c') = w1.alloc (.cells c' 79) := fun c c' => World.setRow_alloc_new w1 c c' _
  have hb2 : Below w1.heap.size w1 (w1.alloc (.cells st0.arr 79)) := (Below.refl _ _).alloc (Nat.le_refl _) _
  go_wp2_with (first
    | (refine wpList_store_row rfl 79 _ _ rfl w1.heap.size st0.arr rfl rfl 79 zeros8 (heap_alloc_last w1 _) sizeSt rfl (one8 st0) ?_; rw [hset])
    | fail)
  refine (addBlocksS w1.heap.size st0 (t.extract 0 m) n1 _ HA.out hb18 (laidK_stays hK1 hb2) (heap_alloc_last w1 _)).mono ?_
  rintro e w2 ⟨⟨v2, rfl⟩, h2, hg2, hK2⟩
  have hb02 : Below w.heap.size w w2 := (hb1.trans (hb2.mono hb1.size)).grown hg2 (by have := hb1.size; simp; omega) (fun k e => by cases e; exact hb1.size)
  go_wp2_with fail
  refine (tailS (t.extract m t.size) t.size _ HR.out hs).mono ?_
  rintro e w3 ⟨rfl, hb3⟩
  rw [← HTL.out]
  have hlt2 : w1.heap.size < w2.heap.size := (Array.getElem?_eq_some_iff.1 h2).1
  go_wp2_with fail
  have h3 := (hb3.block _ hlt2).trans h2
  have HTE : Hid ((blocksTo st0 (t.extract 0 m).data.toList n1) = sA) := hsA.symm
  rw [HTE.out] at h3
  refine (addBlocksS w1.heap.size sA tl n2 _ HTs.out hb28 (laidK_stays hK2 hb3) h3).mono ?_
  rintro e w4 ⟨⟨v4, rfl⟩, h4, hg4, hK4⟩
  have hb03 : Below w.heap.size w w3 := bt' hb02 hb3
  have hb04 : Below w.heap.size w w4 := hb03.grown hg4 hb03.size (fun k e => by cases e; exact hb1.size)
  have h4' : w4.heap[w1.heap.size]? = some (.cells (sumS t.data.toList).arr 79 (0, 0)) := by rw [← HF.out]; exact h4
  clear h4
  go_wp2_with fail
  refine (figuresS w1.heap.size _ _ (sumS_ok t.data.toList) h4').mono ?_
  rintro e w5 ⟨rfl, hb5⟩
  go_wp2
  go_ret
  exact ⟨rfl, bt' hb04 hb5⟩
end Go.Proofs.YtiganhkmnklhlaaDoor
