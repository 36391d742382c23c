/-
  What is used of a leg, and what is to be given back: the program's answers and the model's.
-/
import Derived.Test.YtlfmhhdlandcjaaGreatDoorLegMath
namespace Go.Proofs.YtlfmhhdlandcjaaGreatDoor
open Go.RowKit
set_option linter.unusedVariables false
set_option linter.unusedSimpArgs false

set_option maxHeartbeats 4000000 in
theorem usedI (d : LegD) (p : LegP) (k : Nat) (hk : k < 3) (w : World) (h : LegIn w d p) (hS : SoldOk d) (hH : HeldOk d) (hc : d.nS ≤ p.cS) :
    Calls Tryz.prog 85 #[LegV d p, .int .i64 (k : Int)] w fun e w' => e = .returned (.int .i64 (usedB d k)) ∧ Below w.heap.size w w' := by
  have HU : Hid (usedB d k = sumS d.S k (3 - k) + usedH d.c d.s k d.nH) := rfl
  generalize usedB d k = U at *
  obtain ⟨nm, fr, to, dep, arr, cap, nL, L, nS, S, nB, B, nH, t, c, s⟩ := d
  obtain ⟨aL, cL, aS, cS, aB, cB, aH, cH⟩ := p
  obtain ⟨e3, HS⟩ := hS
  obtain ⟨hn6, HH⟩ := hH
  obtain ⟨hi1, hi2, hi3, hi4⟩ := h
  dsimp only at e3 HS HH hn6 hc HU hi1 hi2 hi3 hi4
  subst e3
  obtain ⟨bS, oS, rfl, hbS, hcS⟩ := hi2.cells (by omega)
  unfold LegV
  dsimp only
  generalize hV : (#[.string nm, .string fr, .string to, .int .i64 dep, .int .i64 arr, .int .i64 cap, .slice aL nL cL, .slice (some ⟨bS, oS, none⟩) 3 cS, .slice aB nB cB, .slice aH nH cH] : Array Value) = V at *
  have hbA : Below w.heap.size w (w.alloc (.cells V 25)) := (Below.refl _ _).alloc (Nat.le_refl _) _
  have hbox : (w.alloc (.cells V 25)).heap[w.heap.size]? = some (.cells V 25 (0, 0)) := heap_alloc_new w _
  have cL7 : (w.alloc (.cells V 25)).cell? ⟨w.heap.size, 7, none⟩ = some (.slice (some ⟨bS, oS, none⟩) 3 cS) := by rw [Lib.cell_of_heap hbox, ← hV]; rfl
  have Hbox := Lib.hid hbox
  have HbA := Lib.hid hbA
  have HcS := Lib.hid hcS
  have HHo := Lib.hid hi4
  have Hs := Lib.hid HS
  have Hh := Lib.hid HH
  have HV := Lib.hid hV
  clear hbA HS HH hi4 hcS hV hbox hi1 hi3 hi2
  go_enter Tryz.func85, Tryz.ntmps85
  go_wp2_with fail
  generalize hM : 3 - k = M at *
  have hkM : k + M = 3 := by omega
  clear hM
  go_loopw [5, 15] (fun v i wr => ∃ m : Nat, m ≤ M ∧ v = .int .i64 (sumS S k m) ∧ i = .int .i64 m ∧ wr = w.alloc (.cells V 25)) (fun _ i _ => M - (intOf i).toNat)
  case atStart => exact ⟨0, Nat.zero_le _, rfl, rfl, rfl⟩
  case round =>
    obtain ⟨m, hm, rfl, rfl, rfl⟩ := hrel
    rcases Nat.lt_or_ge m M with hlt | hge
    · have c1 := HcS.out (k + m) (by omega)
      rw [← Nat.add_assoc] at c1
      have hbox1 := Hs.out (k + m) (by omega)
      have hsum := sumS_box (S := S) (k := k) m (fun i hi => Hs.out _ (by omega))
      have hnx : Hid (sumS S k m + S (k + m) = sumS S k (m + 1)) := rfl
      have m1 : (m : Int) < M := by omega
      have m0 : (0 : Int) ≤ m := by omega
      generalize S (k + m) = x at *
      generalize sumS S k m = y at *
      have c2 := cell_kept HbA.out hbS c1
      go_wp2
      go_roundw
      case rel => exact ⟨m + 1, by omega, by rw [← hnx.out], by go_num, (by first | rfl | trivial)⟩
      case measure => simp [intOf]; omega
    · obtain rfl : m = M := by omega
      have hsum := sumS_box (S := S) (k := k) m (fun i hi => Hs.out _ (by omega))
      generalize hy : sumS S k m = y at *
      have Hy := Lib.hid hy
      clear hy
      have cL9 : (w.alloc (.cells V 25)).cell? ⟨w.heap.size, 9, none⟩ = some (.slice aH nH cH) := by rw [Lib.cell_of_heap Hbox.out, ← HV.out]; rfl
      go_wp2_with fail
      generalize w.alloc (.cells V 25) = W at *
      have HHW := HHo.out.kept HbA.out
      go_loopw [5, 26] (fun v i wr => ∃ n : Nat, n ≤ nH ∧ v = .int .i64 (y + usedH c s k n) ∧ i = .int .i64 n ∧ Below W.heap.size W wr) (fun _ i _ => nH - (intOf i).toNat)
      case atStart => exact ⟨0, Nat.zero_le _, by simp [usedH], rfl, Below.refl _ _⟩
      case round =>
        obtain ⟨n, hn, rfl, rfl, hb⟩ := hrel
        rcases Nat.lt_or_ge n nH with hlt | hge
        · obtain ⟨bH, oH, rfl, hbH, hcH⟩ := HHW.cells (by omega)
          have hbHr : bH < wr.heap.size := Nat.lt_of_lt_of_le hbH hb.size
          have c1 := cell_kept hb hbH (hcH n hlt).1
          have c2 := cell_kept hb hbH (hcH n hlt).2.1
          have c3 := cell_kept hb hbH (hcH n hlt).2.2
          have hbox1 := Hh.out n hlt
          have hsum := usedH_box (c := c) (s := s) (k := k) n (fun i hi => Hh.out i (by omega))
          have hnx : Hid (usedH c s k n + (if (k : Int) ≤ c n then max (s n) 0 else 0) = usedH c s k (n + 1)) := rfl
          have n1 : (n : Int) < nH := by omega
          have n0 : (0 : Int) ≤ n := by omega
          clear hcH
          generalize t n = x1 at *
          generalize c n = x2 at *
          generalize s n = x3 at *
          generalize usedH c s k n = z at *
          obtain ⟨d0, d1, d2⟩ := row3 (holdBox wr x1 x2 x3)
          have hb2 := bt hb (holdBelow wr x1 x2 x3)
          have hnx2 : Hid (usedH c s k (n + 1) = z + (if (k : Int) ≤ x2 then max x3 0 else 0)) := hnx.out.symm
          clear hnx
          rcases Int.lt_or_le x2 (k : Int) with hlt2 | hle2
          all_goals
           go_wp2_with (first
            | (refine wpList_store_row rfl 58 _ _ rfl wr.heap.size #[.int .i64 x1, .int .i64 x2, .int .i64 x3] rfl rfl 58 #[.int .i64 0, .int .i64 0, .int .i64 0] (heap_alloc_new wr _) holdSize rfl (hold_one x1 x2 x3) ?_)
            | fail)
           generalize (wr.alloc (.cells #[.int .i64 0, .int .i64 0, .int .i64 0] 58)).setRow wr.heap.size #[.int .i64 x1, .int .i64 x2, .int .i64 x3] = W5 at *
           go_roundw
           case rel =>
            refine ⟨n + 1, by omega, ?_, by go_num, hb2⟩
            rw [hnx2.out]
            first | (rw [if_neg (by omega)]; simp; done) | (rw [if_pos hle2]; first | rfl | (congr 1; omega))
           case measure => simp [intOf]; omega
        · obtain rfl : n = nH := by omega
          go_wp2
          go_ret
          exact ⟨retI (by rw [HU.out]), bt HbA.out hb⟩

set_option maxHeartbeats 4000000 in
theorem backI (d : LegD) (p : LegP) (k : Nat) (w : World) (h : LegIn w d p) (hH : HeldOk d) :
    Calls Tryz.prog 70 #[LegV d p, .int .i64 (k : Int)] w fun e w' => e = .returned (.int .i64 (backB d k)) ∧ Below w.heap.size w w' := by
  have HU : Hid (backB d k = backH d.c d.s k d.nH) := rfl
  generalize backB d k = U at *
  obtain ⟨nm, fr, to, dep, arr, cap, nL, L, nS, S, nB, B, nH, t, c, s⟩ := d
  obtain ⟨aL, cL, aS, cS, aB, cB, aH, cH⟩ := p
  obtain ⟨hn6, HH⟩ := hH
  obtain ⟨hi1, hi2, hi3, hi4⟩ := h
  dsimp only at HH hn6 HU hi4
  unfold LegV
  dsimp only
  generalize hV : (#[.string nm, .string fr, .string to, .int .i64 dep, .int .i64 arr, .int .i64 cap, .slice aL nL cL, .slice aS nS cS, .slice aB nB cB, .slice aH nH cH] : Array Value) = V at *
  have hbA : Below w.heap.size w (w.alloc (.cells V 25)) := (Below.refl _ _).alloc (Nat.le_refl _) _
  have hbox : (w.alloc (.cells V 25)).heap[w.heap.size]? = some (.cells V 25 (0, 0)) := heap_alloc_new w _
  have cL9 : (w.alloc (.cells V 25)).cell? ⟨w.heap.size, 9, none⟩ = some (.slice aH nH cH) := by rw [Lib.cell_of_heap hbox, ← hV]; rfl
  have HbA := Lib.hid hbA
  have HHo := Lib.hid hi4
  have Hh := Lib.hid HH
  clear hbA HH hi4 hV hbox hi1 hi3 hi2
  go_enter Tryz.func70, Tryz.ntmps70
  go_wp2_with fail
  generalize w.alloc (.cells V 25) = W at *
  have HHW := HHo.out.kept HbA.out
  go_loopw [5, 11] (fun v i wr => ∃ n : Nat, n ≤ nH ∧ v = .int .i64 (backH c s k n) ∧ i = .int .i64 n ∧ Below W.heap.size W wr) (fun _ i _ => nH - (intOf i).toNat)
  case atStart => exact ⟨0, Nat.zero_le _, by simp [backH], rfl, Below.refl _ _⟩
  case round =>
    obtain ⟨n, hn, rfl, rfl, hb⟩ := hrel
    rcases Nat.lt_or_ge n nH with hlt | hge
    · obtain ⟨bH, oH, rfl, hbH, hcH⟩ := HHW.cells (by omega)
      have hbHr : bH < wr.heap.size := Nat.lt_of_lt_of_le hbH hb.size
      have c1 := cell_kept hb hbH (hcH n hlt).1
      have c2 := cell_kept hb hbH (hcH n hlt).2.1
      have c3 := cell_kept hb hbH (hcH n hlt).2.2
      have hbox1 := Hh.out n hlt
      have hsum := backH_box (c := c) (s := s) (k := k) n (fun i hi => Hh.out i (by omega))
      have hnx : Hid (backH c s k n + (if c n = k then max (-(s n)) 0 else 0) = backH c s k (n + 1)) := rfl
      have n1 : (n : Int) < nH := by omega
      have n0 : (0 : Int) ≤ n := by omega
      clear hcH
      generalize t n = x1 at *
      generalize c n = x2 at *
      generalize s n = x3 at *
      generalize backH c s k n = z at *
      obtain ⟨d0, d1, d2⟩ := row3 (holdBox wr x1 x2 x3)
      have hb2 := bt hb (holdBelow wr x1 x2 x3)
      have hnx2 : Hid (backH c s k (n + 1) = z + (if x2 = k then max (-x3) 0 else 0)) := hnx.out.symm
      clear hnx
      generalize (k : Int) = kk at *
      by_cases hx : x2 = kk
      subst hx
      all_goals
       go_wp2_with (first
        | (refine wpList_store_row rfl 58 _ _ rfl wr.heap.size #[.int .i64 x1, .int .i64 x2, .int .i64 x3] rfl rfl 58 #[.int .i64 0, .int .i64 0, .int .i64 0] (heap_alloc_new wr _) holdSize rfl (hold_one x1 x2 x3) ?_)
        | fail)
       generalize (wr.alloc (.cells #[.int .i64 0, .int .i64 0, .int .i64 0] 58)).setRow wr.heap.size #[.int .i64 x1, .int .i64 x2, .int .i64 x3] = W5 at *
       go_roundw
       case rel =>
        refine ⟨n + 1, by omega, ?_, by go_num, hb2⟩
        rw [hnx2.out]
        first | (rw [if_neg hx]; simp; done) | (rw [if_pos rfl]; first | rfl | (congr 1; omega))
       case measure => simp [intOf]; omega
    · obtain rfl : n = nH := by omega
      go_wp2
      go_ret
      exact ⟨retI (by rw [HU.out]), bt HbA.out hb⟩

set_option maxHeartbeats 4000000 in
theorem usedM (d : LegD) (p : LegP) (k : Nat) (hk : k < 3) (w : World) (h : LegIn w d p) (hS : SoldOk d) (hH : HeldOk d) :
    Calls Tryz.prog 44 #[LegV d p, .int .i64 (k : Int)] w fun e w' => e = .returned (.int .i64 (usedB d k)) ∧ Below w.heap.size w w' := by
  have HU : Hid (usedB d k = sumS d.S k (3 - k) + usedH d.c d.s k d.nH) := rfl
  generalize usedB d k = U at *
  obtain ⟨nm, fr, to, dep, arr, cap, nL, L, nS, S, nB, B, nH, t, c, s⟩ := d
  obtain ⟨aL, cL, aS, cS, aB, cB, aH, cH⟩ := p
  obtain ⟨e3, HS⟩ := hS
  obtain ⟨hn6, HH⟩ := hH
  obtain ⟨hi1, hi2, hi3, hi4⟩ := h
  dsimp only at e3 HS HH hn6 HU hi1 hi2 hi3 hi4
  subst e3
  obtain ⟨bS, oS, rfl, hbS, hcS⟩ := hi2.cells (by omega)
  unfold LegV
  dsimp only
  generalize hV : (#[.string nm, .string fr, .string to, .int .i64 dep, .int .i64 arr, .int .i64 cap, .slice aL nL cL, .slice (some ⟨bS, oS, none⟩) 3 cS, .slice aB nB cB, .slice aH nH cH] : Array Value) = V at *
  have hbA : Below w.heap.size w (w.alloc (.cells V 25)) := (Below.refl _ _).alloc (Nat.le_refl _) _
  have hbox : (w.alloc (.cells V 25)).heap[w.heap.size]? = some (.cells V 25 (0, 0)) := heap_alloc_new w _
  have cL7 : (w.alloc (.cells V 25)).cell? ⟨w.heap.size, 7, none⟩ = some (.slice (some ⟨bS, oS, none⟩) 3 cS) := by rw [Lib.cell_of_heap hbox, ← hV]; rfl
  have cL9 : (w.alloc (.cells V 25)).cell? ⟨w.heap.size, 9, none⟩ = some (.slice aH nH cH) := by rw [Lib.cell_of_heap hbox, ← hV]; rfl
  have HcS := Lib.hid hcS
  have HHo := Lib.hid hi4
  have Hs := Lib.hid HS
  have Hh := Lib.hid HH
  have HbA := Lib.hid hbA
  clear hbA HH hi4 hV hbox hi1 hi3 hi2 HS hcS
  go_enter Tryz.func44, Tryz.ntmps44
  go_wp2_with fail
  generalize w.alloc (.cells V 25) = W at *
  have HHW := HHo.out.kept HbA.out
  go_loopw [5, 6] (fun v i wr => ∃ m : Nat, k + m ≤ 3 ∧ v = .int .i64 (sumS S k m) ∧ i = .int .i64 ((k + m : Nat) : Int) ∧ W = wr) (fun _ i _ => 3 - (intOf i).toNat)
  case atStart => exact ⟨0, by omega, rfl, rfl, rfl⟩
  case round =>
    obtain ⟨m, hm, rfl, rfl, rfl⟩ := hrel
    rcases Nat.lt_or_ge (k + m) 3 with hlt | hge
    · have c1 := cell_kept HbA.out hbS (HcS.out (k + m) (by omega))
      have hbox1 := Hs.out (k + m) (by omega)
      have hsum := sumS_box (S := S) (k := k) m (fun i hi => Hs.out _ (by omega))
      have hnx : Hid (sumS S k m + S (k + m) = sumS S k (m + 1)) := rfl
      have m3 : (m : Int) ≤ 3 := by omega
      generalize hj : k + m = j at *
      have hjx : Hid (k + m = j) := hj
      have m1 : (j : Int) < 3 := by omega
      have m0 : (0 : Int) ≤ j := by omega
      generalize S j = x at *
      generalize sumS S k m = y at *
      clear hj
      go_wp2
      go_roundw
      case rel => exact ⟨m + 1, by have := hjx.out; omega, by rw [← hnx.out]; try go_num, by have := hjx.out; rw [show k + (m + 1) = j + 1 by omega]; go_num, (by first | rfl | trivial)⟩
      case measure => simp [intOf]; omega
    · have em : m = 3 - k := by omega
      have hsum := sumS_box (S := S) (k := k) m (fun i hi => Hs.out _ (by omega))
      generalize hj : k + m = j at *
      have hj3 : ¬ ((j : Int) < 3) := by omega
      clear hj hm hge
      subst em
      generalize sumS S k (3 - k) = y at *
      go_wp2_with fail
      go_loopw [5, 7] (fun v i wr => ∃ n : Nat, n ≤ nH ∧ v = .int .i64 (y + usedH c s k n) ∧ i = .int .i64 n ∧ W = wr) (fun _ i _ => nH - (intOf i).toNat)
      case atStart => exact ⟨0, Nat.zero_le _, by simp [usedH], rfl, rfl⟩
      case round =>
        obtain ⟨n, hn, rfl, rfl, rfl⟩ := hrel
        rcases Nat.lt_or_ge n nH with hlt | hge
        · obtain ⟨bH, oH, rfl, hbH, hcH⟩ := HHW.cells (by omega)
          obtain ⟨c1, c2, c3⟩ := hcH n hlt
          have hbox1 := Hh.out n hlt
          have hsum2 := usedH_box (c := c) (s := s) (k := k) n (fun i hi => Hh.out i (by omega))
          have hnx : Hid (usedH c s k (n + 1) = usedH c s k n + (if (k : Int) ≤ c n then max (s n) 0 else 0)) := rfl
          have n1 : (n : Int) < nH := by omega
          have n0 : (0 : Int) ≤ n := by omega
          clear hcH
          generalize t n = x1 at *
          generalize c n = x2 at *
          generalize s n = x3 at *
          generalize usedH c s k n = z at *
          rcases Int.lt_or_le x2 (k : Int) with hlt2 | hle2
          rotate_left
          rcases Int.lt_or_le 0 x3 with hp | hp
          all_goals
           go_wp2
           go_roundw
           case rel =>
            refine ⟨n + 1, by omega, ?_, by go_num, (by first | rfl | trivial)⟩
            rw [hnx.out]
            first | (rw [if_neg (by omega)]; simp; done) | (rw [if_pos hle2]; congr 1; omega)
           case measure => simp [intOf]; omega
        · obtain rfl : n = nH := by omega
          go_wp2
          go_ret
          exact ⟨retI (by rw [HU.out]), HbA.out⟩

set_option maxHeartbeats 4000000 in
theorem backM (d : LegD) (p : LegP) (k : Nat) (w : World) (h : LegIn w d p) (hH : HeldOk d) :
    Calls Tryz.prog 45 #[LegV d p, .int .i64 (k : Int)] w fun e w' => e = .returned (.int .i64 (backB d k)) ∧ Below w.heap.size w w' := by
  have HU : Hid (backB d k = backH d.c d.s k d.nH) := rfl
  generalize backB d k = U at *
  obtain ⟨nm, fr, to, dep, arr, cap, nL, L, nS, S, nB, B, nH, t, c, s⟩ := d
  obtain ⟨aL, cL, aS, cS, aB, cB, aH, cH⟩ := p
  obtain ⟨hn6, HH⟩ := hH
  obtain ⟨hi1, hi2, hi3, hi4⟩ := h
  dsimp only at HH hn6 HU hi4
  unfold LegV
  dsimp only
  generalize hV : (#[.string nm, .string fr, .string to, .int .i64 dep, .int .i64 arr, .int .i64 cap, .slice aL nL cL, .slice aS nS cS, .slice aB nB cB, .slice aH nH cH] : Array Value) = V at *
  have hbA : Below w.heap.size w (w.alloc (.cells V 25)) := (Below.refl _ _).alloc (Nat.le_refl _) _
  have hbox : (w.alloc (.cells V 25)).heap[w.heap.size]? = some (.cells V 25 (0, 0)) := heap_alloc_new w _
  have cL9 : (w.alloc (.cells V 25)).cell? ⟨w.heap.size, 9, none⟩ = some (.slice aH nH cH) := by rw [Lib.cell_of_heap hbox, ← hV]; rfl
  have HbA := Lib.hid hbA
  have HHo := Lib.hid hi4
  have Hh := Lib.hid HH
  clear hbA HH hi4 hV hbox hi1 hi3 hi2
  go_enter Tryz.func45, Tryz.ntmps45
  go_wp2_with fail
  generalize w.alloc (.cells V 25) = W at *
  have HHW := HHo.out.kept HbA.out
  go_loopw [5, 6] (fun v i wr => ∃ n : Nat, n ≤ nH ∧ v = .int .i64 (backH c s k n) ∧ i = .int .i64 n ∧ W = wr) (fun _ i _ => nH - (intOf i).toNat)
  case atStart => exact ⟨0, Nat.zero_le _, by simp [backH], rfl, rfl⟩
  case round =>
    obtain ⟨n, hn, rfl, rfl, rfl⟩ := hrel
    rcases Nat.lt_or_ge n nH with hlt | hge
    · obtain ⟨bH, oH, rfl, hbH, hcH⟩ := HHW.cells (by omega)
      obtain ⟨c1, c2, c3⟩ := hcH n hlt
      have hbox1 := Hh.out n hlt
      have hsum2 := backH_box (c := c) (s := s) (k := k) n (fun i hi => Hh.out i (by omega))
      have hnx : Hid (backH c s k (n + 1) = backH c s k n + (if c n = k then max (-(s n)) 0 else 0)) := rfl
      have n1 : (n : Int) < nH := by omega
      have n0 : (0 : Int) ≤ n := by omega
      clear hcH
      generalize t n = x1 at *
      generalize c n = x2 at *
      generalize s n = x3 at *
      generalize backH c s k n = z at *
      by_cases hx : x2 = (k : Int)
      rcases Int.lt_or_le x3 0 with hp | hp
      all_goals
       go_wp2
       go_roundw
       case rel =>
        refine ⟨n + 1, by omega, ?_, by go_num, (by first | rfl | trivial)⟩
        rw [hnx.out]
        first | (rw [if_neg hx]; simp; done) | (rw [if_pos hx]; congr 1; omega)
       case measure => simp [intOf]; omega
    · obtain rfl : n = nH := by omega
      go_wp2
      go_ret
      exact ⟨retI (by rw [HU.out]), HbA.out⟩
end Go.Proofs.YtlfmhhdlandcjaaGreatDoor
