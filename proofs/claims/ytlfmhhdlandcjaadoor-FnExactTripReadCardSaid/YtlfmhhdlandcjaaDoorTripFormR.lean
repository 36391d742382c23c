/-
  Whether a trip has its form: the program's answer and the model's.
-/
import Derived.Test.YtlfmhhdlandcjaaDoorTripR
import Derived.Test.YtlfmhhdlandcjaaDoorShelf
namespace Go.Proofs.YtlfmhhdlandcjaaDoor
open Go.RowKit
set_option linter.unusedVariables false
set_option linter.unusedSimpArgs false

def FormPost (ss : List ByteArray) (f : ByteArray) (n : Int) (w : World) (e : Ending) (w' : World) : Prop := ∃ b : Bool, e = .returned (.bool b) ∧ Hid (b = true ↔ FormOk ss f n) ∧ Below w.heap.size w w'

set_option maxHeartbeats 400000 in
theorem withinI (n lo hi : Int) (w : World) :
    Calls Tryd.prog 44 #[.int .i64 n, .int .i64 lo, .int .i64 hi] w fun e w' => e = .returned (.bool (decide (lo ≤ n) && decide (n ≤ hi))) ∧ w' = w := by
  by_cases h1 : n < lo
  · go_enter Tryd.func44, Tryd.ntmps44
    go_wp2
    go_ret
    exact ⟨retB (by simp; omega), rfl⟩
  · go_enter Tryd.func44, Tryd.ntmps44
    go_wp2
    go_ret
    exact ⟨retB (by simp; try omega), rfl⟩
set_option maxHeartbeats 400000 in
theorem inS (n lo hi : Int) (w : World) :
    Calls Tryd.prog 43 #[.int .i64 n, .int .i64 lo, .int .i64 hi] w fun e w' => e = .returned (.bool (decide (lo ≤ n) && decide (n ≤ hi))) ∧ w' = w := by
  by_cases h1 : n < lo
  · go_enter Tryd.func43, Tryd.ntmps43
    go_wp2
    go_ret
    exact ⟨retB (by simp; omega), rfl⟩
  · go_enter Tryd.func43, Tryd.ntmps43
    go_wp2
    go_ret
    exact ⟨retB (by simp; try omega), rfl⟩
theorem not_form {ss : List ByteArray} {f : ByteArray} {n : Int} {k len : Nat} (hl : ss.length = len) (hk : k < len) (h : ¬ (nameB (legAt ss k).data.toList = true ∧ ∀ j, j < k → legAt ss j ≠ legAt ss k)) : ¬ FormOk ss f n := fun hF => h (hF.2.2.1 k (by omega))
theorem mem_take {ss : List ByteArray} {k : Nat} (hk : k ≤ ss.length) (x : ByteArray) : x ∈ ss.take k ↔ ∃ j, j < k ∧ legAt ss j = x := by
  rw [List.mem_iff_getElem]
  constructor
  · rintro ⟨j, hj, rfl⟩
    rw [List.length_take] at hj
    exact ⟨j, by omega, by simp [legAt, show j < ss.length by omega]⟩
  · rintro ⟨j, hj, rfl⟩
    exact ⟨j, by rw [List.length_take]; omega, by simp [legAt, show j < ss.length by omega]⟩
theorem Strs.cells {w : World} {a : Option Addr} {len : Nat} {ss : List ByteArray} (h : Strs w a len ss) (h0 : 0 < len) : ∃ b off, a = some ⟨b, off, none⟩ ∧ b < w.heap.size ∧ ∀ i, i < len → w.cell? ⟨b, off + i, none⟩ = some (.string (legAt ss i)) := by
  rcases h.2 with h2 | ⟨b, off, h1, h3, h4⟩
  · omega
  · exact ⟨b, off, h1, h3, h4⟩

set_option maxHeartbeats 4000000 in
theorem formI (a : Option Addr) (cap : Nat) (ss : List ByteArray) (f : ByteArray) (n : Int) (w : World) (h : Strs w a ss.length ss) (hc : ss.length ≤ cap) (hl : ss.length ≤ 1048576) (hss : ∀ i, i < ss.length → (legAt ss i).size ≤ 1048576) (hf : f.size ≤ 1048576) :
    Calls Tryd.prog 60 #[.agg #[.slice a ss.length cap, .string f, .int .i64 n]] w (FormPost ss f n w) := by
  generalize hlen : ss.length = len at *
  have HLen := Lib.hid hlen
  have Hss := Lib.hid hss
  have hbA : Below w.heap.size w (w.alloc (.cells #[.slice a len cap, .string f, .int .i64 n] 33)) := (Below.refl _ _).alloc (Nat.le_refl _) _
  have HbA := Lib.hid hbA
  have HS := Lib.hid (h.kept hbA)
  clear hlen hss hbA h
  cases hin : (decide ((1 : Int) ≤ (len : Int)) && decide ((len : Int) ≤ 3)) with
  | false =>
    have hno : Hid (¬ FormOk ss f n) := fun h => by have := h.1; have := h.2.1; have := HLen.out; simp at hin; omega
    have Hin := Lib.hid hin
    clear hin
    go_enter Tryd.func60, Tryd.ntmps60
    go_wp2_with (go_at_call 44; refine (withinI _ _ _ _).mono ?_; rintro e w' ⟨rfl, rfl⟩; rw [Hin.out])
    go_ret
    exact ⟨false, rfl, ⟨fun h => (by cases h), fun h => absurd h hno.out⟩, HbA.out⟩
  | true =>
    have hin2 : 1 ≤ len ∧ len ≤ 3 := by simp at hin; omega
    have Hin := Lib.hid hin
    clear hin
    obtain ⟨b, off, rfl, hbl, hcell⟩ := HS.out.cells (by omega)
    have Hcell := Lib.hid hcell
    clear hcell
    go_enter Tryd.func60, Tryd.ntmps60
    go_wp2_with fail
    refine (withinI _ _ _ _).mono ?_
    rintro e w' ⟨rfl, rfl⟩
    rw [Hin.out]
    go_wp2_with fail
    go_loopw [13] (fun i wr => ∃ k : Nat, k ≤ len ∧ i = .int .i64 k ∧ Hid (LegsTo ss k) ∧ ∃ q, wr = (w.alloc (.cells #[.slice (some ⟨b, off, none⟩) len cap, .string f, .int .i64 n] 33)).drewN q) (fun i _ => len - (intOf i).toNat)
    case atStart => exact ⟨0, Nat.zero_le _, rfl, fun i hi => absurd hi (Nat.not_lt_zero _), 0, rfl⟩
    case round =>
      obtain ⟨k, hk, rfl, hto, q, rfl⟩ := hrel
      rcases Nat.lt_or_ge k len with hlt | hge
      · have c1 := Hcell.out k hlt
        have hxz : (legAt ss k).size ≤ 1048576 := Hss.out k hlt
        have k1 : (k : Int) < len := by omega
        have k0 : (0 : Int) ≤ k := by omega
        generalize hx : legAt ss k = x at *
        have HX := Lib.hid hx
        clear hx
        go_wp2_with fail
        refine (implName x _ (by unfold maxLen; omega)).mono ?_
        rintro e w' ⟨rfl, rfl⟩
        cases hn : nameB x.data.toList with
        | false =>
          have hno : Hid (¬ FormOk ss f n) := not_form HLen.out hlt (by rw [HX.out]; intro h; rw [hn] at h; cases h.1)
          have Hn := Lib.hid hn
          clear hn
          go_wp2_with fail
          (try go_quiet (fail))
          go_wp2
          go_ret
          exact ⟨false, rfl, ⟨fun h => (by cases h), fun h => absurd h hno.out⟩, belowN HbA.out _⟩
        | true =>
          have Hn := Lib.hid hn
          clear hn
          have hkc : (k : Int) ≤ (cap : Int) := by omega
          go_wp2_with fail
          refine (Tryd.slices_Contains_string b off k cap ss x _ (by have := HLen.out; omega) (by omega) (fun j hj => by rw [World.cell?_drewN]; exact Hcell.out j (by have := HLen.out; omega))).mono ?_
          rintro e w' ⟨rfl, rfl⟩
          cases hcn : Lib.containsS (ss.take k) x with
          | true =>
            have hno : Hid (¬ FormOk ss f n) := not_form HLen.out hlt (by
              intro h
              obtain ⟨j, hj, hje⟩ := (mem_take (by have := HLen.out; omega) x).1 ((Lib.containsS_iff _ _).1 hcn)
              exact h.2 j hj (by rw [HX.out]; exact hje))
            have Hcn := Lib.hid hcn
            clear hcn
            go_wp2
            go_ret
            exact ⟨false, rfl, ⟨fun h => (by cases h), fun h => absurd h hno.out⟩, belowN HbA.out _⟩
          | false =>
            have hnext : Hid (LegsTo ss (k + 1)) := legs_next hto.out (by rw [HX.out]; exact Hn.out) (fun j hj he => by
              have : Lib.containsS (ss.take k) x = true := (Lib.containsS_iff _ _).2 ((mem_take (by have := HLen.out; omega) x).2 ⟨j, hj, by rw [← HX.out]; exact he⟩)
              rw [hcn] at this; cases this)
            have Hcn := Lib.hid hcn
            clear hcn
            go_wp2
            go_roundw
            case rel => exact ⟨k + 1, by omega, by go_num, hnext.out, _, rfl⟩
            case measure => simp [intOf]; omega
      · obtain rfl : k = len := by omega
        go_wp2_with fail
        refine (implName f _ (by unfold maxLen; omega)).mono ?_
        rintro e w' ⟨rfl, rfl⟩
        cases hn : nameB f.data.toList with
        | false =>
          have hno : Hid (¬ FormOk ss f n) := fun h => by have := h.2.2.2.1; rw [hn] at this; cases this
          have Hn := Lib.hid hn
          clear hn
          go_wp2
          go_ret
          exact ⟨false, rfl, ⟨fun h => (by cases h), fun h => absurd h hno.out⟩, belowN HbA.out _⟩
        | true =>
          have Hn := Lib.hid hn
          clear hn
          go_wp2_with fail
          refine (withinI _ _ _ _).mono ?_
          rintro e w' ⟨rfl, rfl⟩
          have hF : Hid ((decide ((1 : Int) ≤ n) && decide (n ≤ 4)) = true ↔ FormOk ss f n) := by
            show _ ↔ _
            simp only [Bool.and_eq_true, decide_eq_true_eq]
            exact ⟨fun h => ⟨by rw [HLen.out]; omega, by rw [HLen.out]; omega, by rw [HLen.out]; exact hto.out, Hn.out, h.1, h.2⟩, fun h => ⟨h.2.2.2.2.1, h.2.2.2.2.2⟩⟩
          generalize (decide ((1 : Int) ≤ n) && decide (n ≤ 4)) = bb at *
          go_wp2
          go_ret
          exact ⟨bb, rfl, hF.out, belowN HbA.out _⟩

set_option maxHeartbeats 4000000 in
theorem formS (a : Option Addr) (cap : Nat) (ss : List ByteArray) (f : ByteArray) (n : Int) (w : World) (h : Strs w a ss.length ss) (hl : ss.length ≤ 1048576) (hss : ∀ i, i < ss.length → (legAt ss i).size ≤ 1048576) (hf : f.size ≤ 1048576) :
    Calls Tryd.prog 53 #[.agg #[.slice a ss.length cap, .string f, .int .i64 n]] w (FormPost ss f n w) := by
  generalize hlen : ss.length = len at *
  have HLen := Lib.hid hlen
  have Hss := Lib.hid hss
  have hbA : Below w.heap.size w (w.alloc (.cells #[.slice a len cap, .string f, .int .i64 n] 33)) := (Below.refl _ _).alloc (Nat.le_refl _) _
  have HbA := Lib.hid hbA
  have HS := Lib.hid (h.kept hbA)
  clear hlen hss hbA h
  go_enter Tryd.func53, Tryd.ntmps53
  go_wp2_with fail
  go_loopw [3] (fun i wr => ∃ k : Nat, k ≤ len ∧ i = .int .i64 k ∧ Hid (LegsTo ss k) ∧ ∃ q, wr = (w.alloc (.cells #[.slice a len cap, .string f, .int .i64 n] 33)).drewN q) (fun i _ => len - (intOf i).toNat)
  case atStart => exact ⟨0, Nat.zero_le _, rfl, fun i hi => absurd hi (Nat.not_lt_zero _), 0, rfl⟩
  case round =>
    obtain ⟨k, hk, rfl, hto, q, rfl⟩ := hrel
    rcases Nat.lt_or_ge k len with hlt | hge
    · obtain ⟨b, off, rfl, hbl, hcell⟩ := HS.out.cells (by omega)
      have c1 := hcell k hlt
      have Hcell := Lib.hid hcell
      have hxz : (legAt ss k).size ≤ 1048576 := Hss.out k hlt
      have k1 : (k : Int) < len := by omega
      have k0 : (0 : Int) ≤ k := by omega
      generalize hx : legAt ss k = x at *
      have HX := Lib.hid hx
      clear hx hcell
      go_wp2_with fail
      refine (specName x _ (by unfold maxLen; omega)).mono ?_
      rintro e w' ⟨rfl, rfl⟩
      cases hn : nameB x.data.toList with
      | false =>
        have hno : Hid (¬ FormOk ss f n) := not_form HLen.out hlt (by rw [HX.out]; intro h; rw [hn] at h; cases h.1)
        have Hn := Lib.hid hn
        clear hn
        go_wp2
        go_ret
        exact ⟨false, rfl, ⟨fun h => (by cases h), fun h => absurd h hno.out⟩, belowN HbA.out _⟩
      | true =>
        have Hn := Lib.hid hn
        clear hn
        go_wp2_with fail
        go_loopw [4] (fun i wr => ∃ m : Nat, m ≤ k ∧ i = .int .i64 m ∧ Hid (∀ j, j < m → legAt ss j ≠ x) ∧ ∃ q, wr = (w.alloc (.cells #[.slice (some ⟨b, off, none⟩) len cap, .string f, .int .i64 n] 33)).drewN q) (fun i _ => k - (intOf i).toNat)
        case atStart => exact ⟨0, Nat.zero_le _, rfl, fun j hj => absurd hj (Nat.not_lt_zero _), _, rfl⟩
        case round =>
          obtain ⟨m, hm, rfl, hdis, q2, rfl⟩ := hrel
          rcases Nat.lt_or_ge m k with hlt2 | hge2
          · have c2 := Hcell.out m (by omega)
            have m1 : (m : Int) < len := by omega
            have m0 : (0 : Int) ≤ m := by omega
            generalize hy : legAt ss m = y at *
            have HY := Lib.hid hy
            clear hy
            by_cases he : y = x
            · have hno : Hid (¬ FormOk ss f n) := not_form HLen.out hlt (by rw [HX.out]; intro h; exact h.2 m hlt2 (by rw [HY.out]; exact he))
              have g0 : (y.toList == x.toList) = true := by rw [he]; simp
              clear he
              go_wp2_with fail
              (try go_quiet (fail))
              go_wp2
              go_ret
              exact ⟨false, rfl, ⟨fun h => (by cases h), fun h => absurd h hno.out⟩, (by first | exact belowN HbA.out _ | exact belowN (belowN HbA.out _) _)⟩
            · have g0 : (y.toList == x.toList) = false := by
                rw [beq_eq_false_iff_ne]
                intro e
                rw [Lib.toList_data, Lib.toList_data] at e
                exact he (ByteArray.ext (Array.ext' e))
              have hd2 : Hid (∀ j, j < m + 1 → legAt ss j ≠ x) := by
                intro j hj
                rcases Nat.lt_or_ge j m with h1 | h1
                · exact hdis.out j h1
                · obtain rfl : j = m := by omega
                  rw [HY.out]; exact he
              clear he
              go_wp2_with fail
              (try go_quiet (fail))
              go_wp2
              go_roundw
              case rel => exact ⟨m + 1, by omega, by go_num, hd2.out, _, rfl⟩
              case measure => simp [intOf]; omega
          · obtain rfl : m = k := by omega
            have hnext : Hid (LegsTo ss (m + 1)) := legs_next hto.out (by rw [HX.out]; exact Hn.out) (fun j hj => by rw [HX.out]; exact hdis.out j hj)
            go_wp2
            go_roundw
            case rel => exact ⟨m + 1, by omega, by go_num, hnext.out, _, rfl⟩
            case measure => simp [intOf]; omega
    · obtain rfl : k = len := by omega
      go_wp2_with fail
      refine (inS _ _ _ _).mono ?_
      rintro e w' ⟨rfl, rfl⟩
      cases hin : (decide ((1 : Int) ≤ (k : Int)) && decide ((k : Int) ≤ 3)) with
      | false =>
        have hno : Hid (¬ FormOk ss f n) := fun h => by have := h.1; have := h.2.1; have := HLen.out; simp at hin; omega
        have Hin := Lib.hid hin
        clear hin
        go_wp2
        go_ret
        exact ⟨false, rfl, ⟨fun h => (by cases h), fun h => absurd h hno.out⟩, belowN HbA.out _⟩
      | true =>
        have hin2 : Hid (1 ≤ k ∧ k ≤ 3) := by show _ ∧ _; simp at hin; omega
        have Hin := Lib.hid hin
        clear hin
        go_wp2_with fail
        refine (specName f _ (by unfold maxLen; omega)).mono ?_
        rintro e w' ⟨rfl, rfl⟩
        cases hn : nameB f.data.toList with
        | false =>
          have hno : Hid (¬ FormOk ss f n) := fun h => by have := h.2.2.2.1; rw [hn] at this; cases this
          have Hn := Lib.hid hn
          clear hn
          go_wp2
          go_ret
          exact ⟨false, rfl, ⟨fun h => (by cases h), fun h => absurd h hno.out⟩, belowN HbA.out _⟩
        | true =>
          have Hn := Lib.hid hn
          clear hn
          go_wp2_with fail
          refine (inS _ _ _ _).mono ?_
          rintro e w' ⟨rfl, rfl⟩
          have hF : Hid ((decide ((1 : Int) ≤ n) && decide (n ≤ 4)) = true ↔ FormOk ss f n) := by
            show _ ↔ _
            simp only [Bool.and_eq_true, decide_eq_true_eq]
            exact ⟨fun h => ⟨by rw [HLen.out]; exact hin2.out.1, by rw [HLen.out]; exact hin2.out.2, by rw [HLen.out]; exact hto.out, Hn.out, h.1, h.2⟩, fun h => ⟨h.2.2.2.2.1, h.2.2.2.2.2⟩⟩
          generalize (decide ((1 : Int) ≤ n) && decide (n ≤ 4)) = bb at *
          go_wp2
          go_ret
          exact ⟨bb, rfl, hF.out, belowN HbA.out _⟩
end Go.Proofs.YtlfmhhdlandcjaaDoor
