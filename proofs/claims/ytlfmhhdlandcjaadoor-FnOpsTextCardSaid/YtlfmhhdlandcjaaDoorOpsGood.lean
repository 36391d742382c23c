/-
  Whether ops are ok, each of them and all together: the model's answer and the program's.
-/
import Derived.Test.YtlfmhhdlandcjaaDoorOpsOk
import Derived.Deep.QuietTactic
namespace Go.Proofs.YtlfmhhdlandcjaaDoor
open Go.RowKit
set_option linter.unusedVariables false
set_option linter.unusedSimpArgs false

theorem Ops.upto {W : World} {a : Option Addr} {n k : Nat} {ds : Nat → OpD} (h : Ops W a n ds) (hk : k ≤ n) : Ops W a k ds := by
  rcases h with h | ⟨b, off, e, hb, hr⟩
  · exact .inl (by omega)
  · exact .inr ⟨b, off, e, hb, fun i hi => hr i (by omega)⟩
theorem opRowBelow (w : World) (cs : Array Value) : Below w.heap.size w ((w.alloc (.cells #[.string ⟨#[]⟩, .int .i64 0, .int .i64 0, .int .i64 0] 55)).setRow w.heap.size cs) := ((Below.refl _ _).alloc (Nat.le_refl _) _).grown (grown_setRow _ _ _) (by simp only [World.size_alloc]; omega) (fun k e => by cases e; exact Nat.le_refl _)
theorem opRowBox (w : World) (d : OpD) : ((w.alloc (.cells #[.string ⟨#[]⟩, .int .i64 0, .int .i64 0, .int .i64 0] 55)).setRow w.heap.size (OpC d)).heap[w.heap.size]? = some (.cells (OpC d) 55 (0, 0)) := setRow_heap _ w.heap.size _ _ _ _ (heap_alloc_new w _)
set_option maxHeartbeats 8000000 in
theorem goodS (a : Option Addr) (n cap : Nat) (ds : Nat → OpD) (w : World) (h : Ops w a n ds) (hz : ∀ i, i < n → (ds i).leg.size ≤ maxLen) (hl : n ≤ 1048576) :
    Calls Tryd.prog 30 #[.slice a n cap] w (OkPost (OpsGood n ds) w) := by
  have H := Lib.hid h
  have HZ := Lib.hid hz
  obtain ⟨b1, hb1⟩ : ∃ b : Bool, (decide ((1 : Int) ≤ (n : Int)) && decide ((n : Int) ≤ 3)) = b := ⟨_, rfl⟩
  have K1 : Hid (∀ W, Calls Tryd.prog 43 #[.int .i64 n, .int .i64 1, .int .i64 3] W fun e w' => e = .returned (.bool b1) ∧ w' = W) := fun W => by rw [← hb1]; exact inS n 1 3 W
  have HG : Hid (b1 = true ↔ 1 ≤ n ∧ n ≤ 3) := by
    refine Lib.hid ?_
    rw [← hb1]
    simp only [Bool.and_eq_true, decide_eq_true_eq]
    omega
  clear h hz hb1
  go_enter Tryd.func30, Tryd.ntmps30
  go_wp2_with fail
  go_loopw [3] (fun i wr => ∃ k : Nat, k ≤ n ∧ i = .int .i64 k ∧ Hid (OpsTo k ds) ∧ Below w.heap.size w wr) (fun i _ => n - (intOf i).toNat)
  case atStart => exact ⟨0, Nat.zero_le _, rfl, fun j hj => absurd hj (Nat.not_lt_zero _), Below.refl _ _⟩
  case round =>
    obtain ⟨k, hk, rfl, hto, hb⟩ := hrel
    rcases Nat.lt_or_ge k n with hlt | hge
    · rcases H.out.kept hb with hc | ⟨b, off, rfl, hbl, hrow⟩
      · omega
      have HB := Lib.hid hb
      have HR := Lib.hid hrow
      have HO : Hid (∀ W, Calls Tryd.prog 52 #[.agg #[.string (ds k).leg, .int .i64 (ds k).cls, .int .i64 (ds k).st, .int .i64 (ds k).sh]] W (OkPost (OpGood (ds k)) W)) := fun W => opS (ds k) W (HZ.out k hlt)
      have k1 : (k : Int) < n := by omega
      have k0 : (0 : Int) ≤ k := by omega
      obtain ⟨y0, y1, y2, y3⟩ := hrow k hlt
      clear hrow hb
      go_wp2_with fail
      refine (HO.out wr).mono ?_
      rintro e w1 ⟨b2, rfl, hb2, d1⟩
      have HB1 := Lib.hid (bt HB.out d1)
      have HR1 : Hid (∀ i, i < n → OpAt w1 b (off + i * 4) (ds i)) := fun i hi => (HR.out i hi).kept hbl d1
      have hbl1 : b < w1.heap.size := Nat.lt_of_lt_of_le hbl d1.size
      clear y0 y1 y2 y3 d1
      cases b2 with
      | false =>
        have hno : Hid (¬ OpsGood n ds) := fun q => by have := hb2.out.2 (q.2 k hlt).1; cases this
        go_wp2
        go_ret
        exact ⟨false, rfl, ⟨fun q => (by cases q), fun q => absurd q hno.out⟩, HB1.out⟩
      | true =>
        have HOK := Lib.hid (hb2.out.1 rfl)
        obtain ⟨y0, -, -, -⟩ := HR1.out k hlt
        generalize hs : (ds k).leg = s at *
        have HS := Lib.hid hs
        clear hb2 hs
        go_wp2_with fail
        go_loopw [4] (fun i wr => ∃ m : Nat, m ≤ k ∧ i = .int .i64 m ∧ Hid (∀ j, j < m → (ds j).leg ≠ s) ∧ ∃ q, wr = w1.drewN q) (fun i _ => k - (intOf i).toNat)
        case atStart => exact ⟨0, Nat.zero_le _, rfl, fun j hj => absurd hj (Nat.not_lt_zero _), 0, rfl⟩
        case round =>
          obtain ⟨m, hm, rfl, hdis, q2, rfl⟩ := hrel
          rcases Nat.lt_or_ge m k with hlt2 | hge2
          · obtain ⟨z0, -, -, -⟩ := HR1.out m (by omega)
            have m1 : (m : Int) < n := by omega
            have m0 : (0 : Int) ≤ m := by omega
            generalize hy : (ds m).leg = y at *
            have HY := Lib.hid hy
            clear hy
            by_cases he : y = s
            · have hno : Hid (¬ OpsGood n ds) := fun q => (q.2 k hlt).2 m hlt2 (by rw [HY.out, HS.out]; exact he)
              have g0 := str_eq he
              clear he
              go_wp2_with fail
              (try go_quiet (fail))
              go_wp2
              go_ret
              exact ⟨false, rfl, ⟨fun q => (by cases q), fun q => absurd q hno.out⟩, (by first | exact belowN HB1.out _ | exact belowN (belowN HB1.out _) _)⟩
            · have g0 := str_neq he
              have hd2 : Hid (∀ j, j < m + 1 → (ds j).leg ≠ s) := by
                intro j hj
                rcases Nat.lt_or_ge j m with h1 | h1
                · exact hdis.out j h1
                · obtain rfl : j = m := by omega
                  rw [HY.out]; exact he
              clear he
              go_wp2_with fail
              (try go_quiet (fail))
              go_wp2
              go_roundw
              case rel => exact ⟨m + 1, by omega, by go_num, hd2.out, _, rfl⟩
              case measure => simp [intOf]; omega
          · obtain rfl : m = k := by omega
            have hnext : Hid (OpsTo (m + 1) ds) := hto.out.next HOK.out (fun j hj => by rw [HS.out]; exact hdis.out j hj)
            go_wp2
            go_roundw
            case rel => exact ⟨m + 1, by omega, by go_num, hnext.out, belowN HB1.out _⟩
            case measure => simp [intOf]; omega
    · obtain rfl : k = n := by omega
      have HB := Lib.hid hb
      clear hb
      go_wp2_with fail
      refine (K1.out wr).mono ?_
      rintro e w1 ⟨rfl, rfl⟩
      go_wp2
      go_ret
      exact ⟨b1, rfl, ⟨fun q => ⟨HG.out.1 q, hto.out⟩, fun q => HG.out.2 q.1⟩, HB.out⟩
set_option maxHeartbeats 8000000 in
theorem goodI (a : Option Addr) (n cap : Nat) (ds : Nat → OpD) (w : World) (h : Ops w a n ds) (hz : ∀ i, i < n → (ds i).leg.size ≤ maxLen) (hl : n ≤ 1048576) (hlc : n ≤ cap) :
    Calls Tryd.prog 25 #[.slice a n cap] w (OkPost (OpsGood n ds) w) := by
  have H := Lib.hid h
  have HZ := Lib.hid hz
  obtain ⟨b1, hb1⟩ : ∃ b : Bool, (decide ((1 : Int) ≤ (n : Int)) && decide ((n : Int) ≤ 3)) = b := ⟨_, rfl⟩
  have K1 : Hid (∀ W, Calls Tryd.prog 44 #[.int .i64 n, .int .i64 1, .int .i64 3] W fun e w' => e = .returned (.bool b1) ∧ w' = W) := fun W => by rw [← hb1]; exact withinI n 1 3 W
  have HG : Hid (b1 = true ↔ 1 ≤ n ∧ n ≤ 3) := by
    refine Lib.hid ?_
    rw [← hb1]
    simp only [Bool.and_eq_true, decide_eq_true_eq]
    omega
  clear h hz hb1
  go_enter Tryd.func25, Tryd.ntmps25
  go_wp2_with fail
  refine (K1.out w).mono ?_
  rintro e w1 ⟨rfl, rfl⟩
  cases b1 with
  | false =>
    have hno : Hid (¬ OpsGood n ds) := fun q => by have := HG.out.2 q.1; cases this
    go_wp2
    go_ret
    exact ⟨false, rfl, ⟨fun q => (by cases q), fun q => absurd q hno.out⟩, Below.refl _ _⟩
  | true =>
  have HN := Lib.hid (HG.out.1 rfl)
  clear HG
  go_wp2_with fail
  go_loopw [12] (fun i wr => ∃ k : Nat, k ≤ n ∧ i = .int .i64 k ∧ Hid (OpsTo k ds) ∧ Below w1.heap.size w1 wr) (fun i _ => n - (intOf i).toNat)
  case atStart => exact ⟨0, Nat.zero_le _, rfl, fun j hj => absurd hj (Nat.not_lt_zero _), Below.refl _ _⟩
  case round =>
    obtain ⟨k, hk, rfl, hto, hb⟩ := hrel
    rcases Nat.lt_or_ge k n with hlt | hge
    · rcases H.out.kept hb with hc | ⟨b, off, rfl, hbl, hrow⟩
      · omega
      have HO : Hid (∀ W, Calls Tryd.prog 47 #[.agg #[.string (ds k).leg, .int .i64 (ds k).cls, .int .i64 (ds k).st, .int .i64 (ds k).sh]] W (OkPost (OpGood (ds k)) W)) := fun W => opI (ds k) W (HZ.out k hlt)
      have HB := Lib.hid (bt hb (opRowBelow wr (OpC (ds k))))
      have HX := Lib.hid (opRowBox wr (ds k))
      have HN2 : Hid (Ops ((wr.alloc (.cells #[.string ⟨#[]⟩, .int .i64 0, .int .i64 0, .int .i64 0] 55)).setRow wr.heap.size (OpC (ds k))) (some ⟨b, off, none⟩) n ds) := (H.out.kept hb).kept (opRowBelow wr (OpC (ds k)))
      have k1 : (k : Int) < n := by omega
      have k0 : (0 : Int) ≤ k := by omega
      have hkc : (k : Int) ≤ (cap : Int) := by omega
      obtain ⟨y0, y1, y2, y3⟩ := hrow k hlt
      clear hrow hb hbl
      go_wp2_with (first
        | (refine wpList_store_row rfl 55 _ _ rfl wr.heap.size (OpC (ds k)) rfl rfl 55 #[.string ⟨#[]⟩, .int .i64 0, .int .i64 0, .int .i64 0] (heap_alloc_new wr _) opSize rfl (op_one (ds k)) ?_)
        | fail)
      clear y0 y1 y2 y3
      generalize (wr.alloc (.cells #[.string ⟨#[]⟩, .int .i64 0, .int .i64 0, .int .i64 0] 55)).setRow wr.heap.size (OpC (ds k)) = w2 at *
      generalize wr.heap.size = bx at *
      refine (hasI bx _ k cap ds (ds k).leg w2 (HN2.out.upto hk) (op_cells HX.out).1 (by omega)).mono ?_
      rintro e w3 ⟨b2, rfl, hb2, d3⟩
      have HB3 := Lib.hid (bt HB.out d3)
      obtain ⟨y0, y1, y2, y3⟩ := op_cells ((d3.block _ (lt_heap HX.out)).trans HX.out)
      simp only [Nat.zero_add] at y1 y2 y3
      clear d3
      cases b2 with
      | true =>
        have hno : Hid (¬ OpsGood n ds) := fun q => by
          obtain ⟨j, hj, he⟩ := hb2.out.1 rfl
          exact (q.2 k hlt).2 j hj he
        clear hb2
        go_wp2
        go_ret
        exact ⟨false, rfl, ⟨fun q => (by cases q), fun q => absurd q hno.out⟩, HB3.out⟩
      | false =>
        have HD : Hid (∀ j, j < k → (ds j).leg ≠ (ds k).leg) := fun j hj he => by have := hb2.out.2 ⟨j, hj, he⟩; cases this
        clear hb2
        go_wp2_with fail
        refine (HO.out w3).mono ?_
        rintro e w4 ⟨b4, rfl, hb4, d4⟩
        have HB4 := Lib.hid (bt HB3.out d4)
        clear y0 y1 y2 y3 d4
        cases b4 with
        | false =>
          have hno : Hid (¬ OpsGood n ds) := fun q => by have := hb4.out.2 (q.2 k hlt).1; cases this
          go_wp2
          go_ret
          exact ⟨false, rfl, ⟨fun q => (by cases q), fun q => absurd q hno.out⟩, HB4.out⟩
        | true =>
          have hnext : Hid (OpsTo (k + 1) ds) := hto.out.next (hb4.out.1 rfl) HD.out
          clear hb4
          go_wp2
          go_roundw
          case rel => exact ⟨k + 1, by omega, by go_num, hnext.out, HB4.out⟩
          case measure => simp [intOf]; omega
    · obtain rfl : k = n := by omega
      go_wp2
      go_ret
      exact ⟨true, rfl, ⟨fun _ => ⟨HN.out, hto.out⟩, fun _ => rfl⟩, hb⟩
end Go.Proofs.YtlfmhhdlandcjaaDoor
