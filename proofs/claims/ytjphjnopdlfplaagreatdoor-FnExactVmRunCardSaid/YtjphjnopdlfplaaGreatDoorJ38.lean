/-
  Names and their numbers in memory: how many, a copy, whether two lists are alike; how they come in.
  RuleOf of both.
-/
import Derived.Test.YtjphjnopdlfplaaGreatDoorJ22
import Derived.Test.YtjphjnopdlfplaaGreatDoorMarksLaw
import Derived.Test.YtjphjnopdlfplaaGreatDoorJ37
import Derived.Test.YtjphjnopdlfplaaGreatDoorJ11
import Derived.Test.YtjphjnopdlfplaaGreatDoorJ23
import Derived.Test.YtjphjnopdlfplaaGreatDoorJ21
namespace Go.Proofs.YtjphjnopdlfplaaGreatDoor
open Go.RowKit Go.ChangeShapes Go.WideShapes Go.ChangeAt
set_option linter.unusedVariables false
set_option linter.unusedSimpArgs false

def IsRowP (w : World) (a : Option Addr) (len cap : Nat) (ns : List (ByteArray × Int)) : Prop := len ≤ cap ∧ cap ≤ maxLen ∧ PairsN All w a len ns ∧ ∀ i, i < len → (ns.getD i (⟨#[]⟩, 0)).1.size ≤ maxLen
theorem openPairs {H : Type} {enc : TypeId × Value → H} {w : World} {base : Nat} {spare : Nat → Bool} {held : Bool} {fuel : Nat} {a : Option Addr} {len cap : Nat} {x : DataW H × List MemPlace}
    (h : DataW.trod enc Tryz.prog w base spare held fuel 23 (Value.cells (.slice a len cap)).toList = some x) : ∃ ns, IsRowP w a len cap ns := by
  rcases Go.Deep.open_slice_pairs Tryz.underlying23 Tryz.underlying65 (by kernel_rfl) rfl rfl (by kernel_rfl) (by kernel_rfl) h with ⟨h1, -⟩ | ⟨ad, len', cap', m, n, V0, V1, D0, D1, P0, P1, h1, -, hl, hm, hmm, -, hc⟩
  · simp [Value.cells] at h1
    obtain ⟨rfl, rfl, rfl⟩ := h1
    exact ⟨[], Nat.le_refl _, by unfold maxLen; omega, ⟨rfl, Or.inl rfl⟩, fun i hi => by omega⟩
  · simp [Value.cells] at h1
    obtain ⟨rfl, rfl, rfl⟩ := h1
    have hlm : len ≤ m := by rw [hmm]; split <;> omega
    have hst : ∀ i, i < len → ∃ s : ByteArray, V0 i = .string s ∧ s.size ≤ maxLen := fun i hi => by
      obtain ⟨g1, g2, g3, g4⟩ := hc i (by omega)
      obtain ⟨s, e0, -, hs⟩ := Go.DataW.trod_string Tryz.underlying9 g3
      simp at e0
      exact ⟨s, e0, by first | exact hs | exact hs.2 | exact hs.1⟩
    let sOf : Value → ByteArray := fun v => match v with | .string s => s | _ => ⟨#[]⟩
    refine ⟨(List.range len).map fun i => (sOf (V0 i), intOf (V1 i)), hl, hm, ⟨by simp, ?_⟩, fun i hi => ?_⟩
    rotate_left
    · obtain ⟨s, e, hs⟩ := hst i hi
      have e2 : (((List.range len).map fun i => (sOf (V0 i), intOf (V1 i))).getD i (⟨#[]⟩, 0)) = (sOf (V0 i), intOf (V1 i)) := by simp [List.getD, hi]
      rw [e2, e]; exact hs
    by_cases h0 : len = 0
    · exact Or.inl h0
    obtain ⟨b, off, spot⟩ := ad
    have hc0 := (hc 0 (by omega)).1
    have hspot : spot = none := by simpa [Addr.add] using World.cell?_spot hc0
    subst hspot
    have hlt := World.block_lt_of_cell? w _ hc0
    refine Or.inr ⟨b, off, rfl, trivial, by simpa [Addr.add] using hlt, fun i hi => ?_⟩
    obtain ⟨g1, g2, g3, g4⟩ := hc i (by omega)
    obtain ⟨s, e0, hs⟩ := hst i hi
    obtain ⟨n1, e1, -, -⟩ := Go.DataW.trod_int Tryz.underlying3 g4
    have a1 : ∀ j, (⟨b, off, none⟩ : Addr).add j = ⟨b, off + j, none⟩ := fun j => by by_cases hj : j = 0 <;> simp [Addr.add, hj]
    rw [a1] at g1 g2
    simp at e1
    rw [e0] at g1; rw [e1] at g2
    have e2 : (((List.range len).map fun i => (sOf (V0 i), intOf (V1 i))).getD i (⟨#[]⟩, 0)) = (s, n1) := by simp [List.getD, hi, e0, e1, intOf, sOf]
    rw [e2]
    exact ⟨g1, by rw [Nat.add_assoc]; exact g2⟩
theorem PairsN.row {N : Nat → Prop} {w : World} {a : Option Addr} {len : Nat} {ns : List (ByteArray × Int)} (h : PairsN N w a len ns) (h0 : 0 < len) : ∃ b off, a = some ⟨b, off, none⟩ ∧ b < w.heap.size ∧ ∀ i, i < len → w.cell? ⟨b, off + i * 2, none⟩ = some (.string (ns.getD i (⟨#[]⟩, 0)).1) ∧ w.cell? ⟨b, off + i * 2 + 1, none⟩ = some (.int .i64 (ns.getD i (⟨#[]⟩, 0)).2) := by
  obtain ⟨-, h2 | ⟨b, off, k1, -, k3, k4⟩⟩ := h
  · omega
  · exact ⟨b, off, k1, k3, k4⟩

set_option maxHeartbeats 400000 in
theorem toPair1 (x : ByteArray) (y : Int) (w : World) :
    Calls Tryz.prog 37 #[.agg #[.string x, .int .i64 y]] w fun e w' => e = .returned (.agg #[.string x, .int .i64 y]) ∧ Below w.heap.size w w' := by
  go_enter Tryz.func37, Tryz.ntmps37
  go_wp2
  (try simp only [Exit.inBlock, Exit.then])
  refine bodyPost_ret (v := .agg #[.string x, .int .i64 y]) ?_ rfl ⟨rfl, ?_⟩
  · rw [results_cellM rfl]
    go_simp
  repeat first
    | exact Below.refl _ _
    | refine Below.alloc ?_ (by simp only [World.size_alloc]; omega) _
    | refine Below.alloc ?_ (Nat.le_refl _) _
    | refine Below.drew ?_
    | refine belowN ?_ _
set_option maxHeartbeats 400000 in
theorem eqPair1 (x : ByteArray) (y : Int) (w : World) :
    Calls Tryz.prog 41 #[.agg #[.string x, .int .i64 y], .agg #[.string x, .int .i64 y]] w fun e w' => e = .returned (.bool true) ∧ Below w.heap.size w w' := by
  have q1 : (x.toList != x.toList) = false := by simp
  have q2 : (x.toList == x.toList) = true := by simp
  have q3 : (y != y) = false := by simp
  go_enter Tryz.func41, Tryz.ntmps41
  go_wp2
  go_ret
  refine ⟨rfl, ?_⟩
  repeat first
    | exact Below.refl _ _
    | refine Below.alloc ?_ (by simp only [World.size_alloc]; omega) _
    | refine Below.alloc ?_ (Nat.le_refl _) _
    | refine Below.drew ?_
    | refine belowN ?_ _
set_option maxHeartbeats 400000 in
theorem szPair1 (x : ByteArray) (y lf : Int) (w : World) (l0 : 0 ≤ lf) (l1 : lf ≤ 1048576) (hx : x.size ≤ maxLen) :
    Calls Tryz.prog 33 #[.agg #[.string x, .int .i64 y], .int .i64 lf] w fun e w' => ∃ r : Int, -1 ≤ r ∧ r ≤ lf ∧ e = .returned (.int .i64 r) ∧ Below w.heap.size w w' := by
  have hxm : x.size ≤ 9223372036854775807 := by unfold maxLen at hx; omega
  have e0 : IntKind.i64.wrap (lf - (x.size : Int)) = lf - (x.size : Int) := IntWalk.i64_in _ (by omega)
  clear hx
  rcases Int.lt_or_le (lf - (x.size : Int)) 0 with h1 | h1
  · have z0 : decide (lf - (x.size : Int) < 0) = true := decide_eq_true h1
    go_enter Tryz.func33, Tryz.ntmps33
    go_wp2
    go_ret
    exact ⟨-1, by omega, by omega, rfl, (Below.refl _ _).alloc (Nat.le_refl _) _⟩
  · have z0 : decide (lf - (x.size : Int) < 0) = false := decide_eq_false (by omega)
    go_enter Tryz.func33, Tryz.ntmps33
    go_wp2
    go_ret
    exact ⟨lf - x.size, by omega, by omega, rfl, (Below.refl _ _).alloc (Nat.le_refl _) _⟩
set_option maxHeartbeats 1000000 in
theorem szPairs (a : Option Addr) (len cap : Nat) (ns : List (ByteArray × Int)) (lf : Int) (w : World) (h : PairsN All w a len ns) (hs : ∀ i, i < len → (ns.getD i (⟨#[]⟩, 0)).1.size ≤ maxLen) (hl : len ≤ maxLen) (l0 : 0 ≤ lf) (l1 : lf ≤ 1048576) :
    Calls Tryz.prog 9 #[.slice a len cap, .int .i64 lf] w (SzP len lf w) := by
  have hlm : (len : Int) ≤ 9223372036854775807 := by unfold maxLen at hl; omega
  have e0 : IntKind.i64.wrap (lf - (len : Int)) = lf - (len : Int) := IntWalk.i64_in _ (by omega)
  have H := Lib.hid h
  have HS := Lib.hid hs
  clear h hs hl
  rcases Int.lt_or_le (lf - (len : Int)) 0 with h1 | h1
  · have z0 : decide (lf - (len : Int) < 0) = true := decide_eq_true h1
    go_enter Tryz.func9, Tryz.ntmps9
    go_wp2
    go_ret
    exact ⟨-1, by omega, by omega, rfl, fun h => by omega, Below.refl _ _⟩
  · have z0 : decide (lf - (len : Int) < 0) = false := decide_eq_false (by omega)
    go_enter Tryz.func9, Tryz.ntmps9
    go_wp2_with fail
    go_loopw [1, 5] (fun vl vi wr => ∃ (k : Nat) (l : Int), k ≤ len ∧ vi = .int .i64 k ∧ vl = .int .i64 l ∧ 0 ≤ l ∧ l ≤ lf - len ∧ Below w.heap.size w wr) (fun _ vi _ => len - (intOf vi).toNat)
    case atStart => exact ⟨0, lf - len, Nat.zero_le _, rfl, rfl, h1, Int.le_refl _, Below.refl _ _⟩
    case round =>
      obtain ⟨k, l, hk, rfl, rfl, g0, g1, hb⟩ := hrel
      rcases Nat.lt_or_ge k len with hlt | hge
      · obtain ⟨b, off, rfl, hbl, hcell⟩ := (H.out.kept (same_of_below (N := All) hb)).row (by omega)
        obtain ⟨c1, c2⟩ := hcell k hlt
        have hz := Lib.hid (HS.out k hlt)
        clear hcell
        generalize (ns.getD k (⟨#[]⟩, 0)).1 = x at *
        generalize (ns.getD k (⟨#[]⟩, 0)).2 = y at *
        have k1 : (k : Int) < len := by omega
        have k0 : (0 : Int) ≤ k := by omega
        go_wp2_with fail
        refine (szPair1 x y l _ g0 (by omega) hz.out).mono ?_
        rintro e w2 ⟨r, q0, q1, rfl, hb2⟩
        have hb3 : Below w.heap.size w w2 := hb.trans (hb2.mono hb.size)
        clear c1 c2 hb2
        rcases Int.lt_or_le r 0 with c | c
        · have zr : decide (r < 0) = true := decide_eq_true c
          go_wp2
          go_ret
          exact ⟨-1, by omega, by omega, rfl, fun h => by omega, hb3⟩
        · have zr : decide (r < 0) = false := decide_eq_false (by omega)
          go_wp2
          go_roundw
          case rel => exact ⟨k + 1, r, by omega, by go_num, rfl, c, by omega, hb3⟩
          case measure => simp [intOf]; omega
      · obtain rfl : k = len := by omega
        go_wp2
        go_ret
        exact ⟨l, by omega, by omega, rfl, fun h => by omega, hb⟩
theorem infoPair : (Tryz.prog.info? 67).map (fun i => (i.zero, i.size, i.bytes)) = some (some (.agg #[.string ⟨#[]⟩, .int .i64 0]), 2, 24) := by kernel_rfl
def CopyP (len : Nat) (ns : List (ByteArray × Int)) (w : World) (e : Ending) (w' : World) : Prop :=
  ∃ g : Nat, w.heap.size ≤ g ∧ e = .returned (.slice (some ⟨g, 0, none⟩) len len) ∧ PairsN (fun b => w.heap.size ≤ b) w' (some ⟨g, 0, none⟩) len ns ∧ Below w.heap.size w w'
set_option maxHeartbeats 1000000 in
theorem copyPairs (a : Option Addr) (len cap : Nat) (ns : List (ByteArray × Int)) (w : World) (h : PairsN All w a len ns) (hl : len ≤ 1048576) :
    Calls Tryz.prog 12 #[.slice a len cap] w (CopyP len ns w) := by
  obtain ⟨i0, hi, hz0, hz1, hz2⟩ := info_parts infoPair
  have Hc := Lib.hid h
  clear h
  go_enter Tryz.func12, Tryz.ntmps12
  go_wp2_with (at_make; refine wpList_make_full _ rfl _ _ 30 rfl w.heap.size 67 i0 (.agg #[.string ⟨#[]⟩, .int .i64 0]) 2 Tryz.underlying30 hi hz0 hz1 .i64 .i64 len len len rfl rfl rfl rfl ?_ ?_ ?_ ?_; rw [hz2]; omega; unfold maxLen; omega; exact Nat.le_refl _; intro w1 hown1 hgrow1)
  have hz := hgrow1.size
  have hb1 : Below w.heap.size w w1 := (Below.refl _ _).grown hgrow1 (Nat.le_refl _) (fun k e => by cases e)
  clear hgrow1
  generalize hg : w.heap.size = g at *
  have Hg := Lib.hid hg
  clear hg
  go_loopw [4] (fun i wr => ∃ k : Nat, k ≤ len ∧ i = .int .i64 k ∧ ∃ xs : List Value, wr.ownsRow g 67 2 (.slice (some ⟨g, 0, none⟩) len len) len xs ∧ Hid (∀ j, j < k → xs[j * 2]? = some (.string (ns.getD j (⟨#[]⟩, 0)).1) ∧ xs[j * 2 + 1]? = some (.int .i64 (ns.getD j (⟨#[]⟩, 0)).2)) ∧ Below g w wr) (fun i _ => len - (intOf i).toNat)
  case atStart => exact ⟨0, Nat.zero_le _, rfl, _, hown1, fun j hj => by omega, hb1⟩
  case round =>
    obtain ⟨k, hk, rfl, xs, hown, hxs, hb⟩ := hrel
    rcases Nat.lt_or_ge k len with hlt | hge
    · obtain ⟨b, off, rfl, hbl, hcell⟩ := Hc.out.row (by omega)
      have c1 : wr.cell? ⟨b, off + k * 2, none⟩ = some (.string (ns.getD k (⟨#[]⟩, 0)).1) := (hb.cell (p := ⟨b, off + k * 2, none⟩) (by show b < g; rw [← Hg.out]; exact hbl)).trans (hcell k hlt).1
      have c1' : wr.cell? ⟨b, off + k * 2 + 1, none⟩ = some (.int .i64 (ns.getD k (⟨#[]⟩, 0)).2) := (hb.cell (p := ⟨b, off + k * 2 + 1, none⟩) (by show b < g; rw [← Hg.out]; exact hbl)).trans (hcell k hlt).2
      clear hcell
      have hxk : Hid (∃ x y, ns.getD k (⟨#[]⟩, 0) = (x, y)) := ⟨_, _, rfl⟩
      obtain ⟨x, y, hxy⟩ := hxk.out
      rw [hxy] at c1 c1'
      dsimp only at c1 c1'
      have HXY := Lib.hid hxy
      have hbw := hown.lt g rfl
      clear hxy
      go_wp2_with fail
      refine (toPair1 _ _ _).mono ?_
      rintro e w2 ⟨rfl, hb2⟩
      have hown2 := hown.kept (below_grownM hb2) (Or.inr (by simp [Value.ownBlock]))
      have hb3 : Below g w w2 := hb.trans (hb2.mono (by omega))
      have hx := hown2.1
      obtain ⟨v0, e0⟩ := cell_ofM (hown2.cellAt (k * 2) (by omega)) (by omega)
      obtain ⟨v1, e1⟩ := cell_ofM (hown2.cellAt (k * 2 + 1) (by omega)) (by omega)
      have f0 := hown2.frozenAt (k * 2)
      have f1 := hown2.frozenAt (k * 2 + 1)
      go_wp2
      go_roundw
      case rel =>
        refine ⟨k + 1, by omega, by go_num, (xs.set (k * 2) (.string x)).set (k * 2 + 1) (.int .i64 y), ((hown2.stored (k * 2) _).1.stored (k * 2 + 1) _).1, fun j hj => ?_, (hb3.setCell (Nat.le_refl _) _).setCell (Nat.le_refl _) _⟩
        by_cases e : j = k
        · subst e
          rw [HXY.out]
          refine ⟨?_, ?_⟩
          · rw [List.getElem?_set_ne (by omega), List.getElem?_set_self (by omega)]
          · rw [List.getElem?_set_self (by simp; omega)]
        · refine ⟨?_, ?_⟩
          · rw [List.getElem?_set_ne (by omega), List.getElem?_set_ne (by omega)]; exact (hxs.out j (by omega)).1
          · rw [List.getElem?_set_ne (by omega), List.getElem?_set_ne (by omega)]; exact (hxs.out j (by omega)).2
      case measure => simp [intOf]; omega
    · obtain rfl : k = len := by omega
      have HL := Lib.hid Hc.out.1
      go_wp2
      go_ret
      have hlt : g < wr.heap.size := (hown.lt g rfl).2
      have hx := hown.1
      refine ⟨g, by rw [Hg.out]; exact Nat.le_refl _, rfl, ⟨HL.out, ?_⟩, by rw [Hg.out]; exact hb⟩
      refine Or.inr ⟨g, 0, rfl, by show w.heap.size ≤ g; rw [Hg.out]; exact Nat.le_refl _, hlt, fun i hi => ?_⟩
      rw [Nat.zero_add, hown.cellAt (i * 2) (by omega), hown.cellAt (i * 2 + 1) (by omega)]
      exact hxs.out i hi
set_option maxHeartbeats 1000000 in
theorem eqPairs (a a' : Option Addr) (len cap cap' : Nat) (ns : List (ByteArray × Int)) (w : World) (h : PairsN All w a len ns) (h' : PairsN All w a' len ns) (hl : len ≤ 1048576) :
    Calls Tryz.prog 15 #[.slice a len cap, .slice a' len cap'] w fun e w' => e = .returned (.bool true) ∧ Below w.heap.size w w' := by
  have H := Lib.hid h
  have H' := Lib.hid h'
  clear h h'
  go_enter Tryz.func15, Tryz.ntmps15
  go_wp2_with fail
  go_loopw [5] (fun i wr => ∃ k : Nat, k ≤ len ∧ i = .int .i64 k ∧ Below w.heap.size w wr) (fun i _ => len - (intOf i).toNat)
  case atStart => exact ⟨0, Nat.zero_le _, rfl, Below.refl _ _⟩
  case round =>
    obtain ⟨k, hk, rfl, hb⟩ := hrel
    rcases Nat.lt_or_ge k len with hlt | hge
    · obtain ⟨b, off, rfl, hbl, hcell⟩ := (H.out.kept (same_of_below (N := All) hb)).row (by omega)
      obtain ⟨b', off', rfl, hbl', hcell'⟩ := (H'.out.kept (same_of_below (N := All) hb)).row (by omega)
      obtain ⟨c1, c2⟩ := hcell k hlt
      obtain ⟨d1, d2⟩ := hcell' k hlt
      clear hcell hcell'
      generalize (ns.getD k (⟨#[]⟩, 0)).1 = x at *
      generalize (ns.getD k (⟨#[]⟩, 0)).2 = y at *
      have k1 : (k : Int) < len := by omega
      have k0 : (0 : Int) ≤ k := by omega
      go_wp2_with fail
      go_region_with (go_at_call 41; refine (eqPair1 x y _).mono ?_; rintro e w2 ⟨rfl, hb2⟩)
      all_goals
        have hb3 : Below w.heap.size w w2 := hb.trans (Below.trans (belowN (Below.refl _ _) 1) (hb2.mono hb.size))
        go_wp2
        go_roundw
        case rel => exact ⟨k + 1, by omega, by go_num, hb3⟩
        case measure => simp [intOf]; omega
    · obtain rfl : k = len := by omega
      go_wp2
      go_ret
      exact ⟨rfl, hb⟩
end Go.Proofs.YtjphjnopdlfplaaGreatDoor

namespace Go.Proofs.YtjphjnopdlfplaaGreatDoor
open Go.RowKit
set_option linter.unusedVariables false
set_option linter.unusedSimpArgs false

def ruleOfV (t : Tr) (ns : List (ByteArray × Int)) (fu : Int) : Int × Int := if okR t ∧ 0 ≤ fu ∧ fu ≤ 1000 then ((evalT ns t fu).v, (evalT ns t fu).c) else (0, 4)
theorem PairsN.old {w w' : World} {a : Option Addr} {len eb : Nat} {ns : List (ByteArray × Int)} (h : PairsN All w a len ns) (hB : Below w.heap.size w w') (he : w.heap.size ≤ eb) : PairsN (fun b => b ≠ eb) w' a len ns := by
  obtain ⟨h1, h2 | ⟨b, off, k1, k2, k3, k4⟩⟩ := h
  · exact ⟨h1, Or.inl h2⟩
  · exact PairsN.kept (w := w) ⟨h1, Or.inr ⟨b, off, k1, by show b ≠ eb; omega, k3, k4⟩⟩ (same_of_below hB)
theorem ev_new (w : World) (na : Option Addr) (nl nc : Nat) (fu : Int) (ty : TypeId) : Ev (w.alloc (.cells #[.slice na nl nc, .int .i64 fu] ty)) w.heap.size na nl nc fu := by
  have h : (w.alloc (.cells #[.slice na nl nc, .int .i64 fu] ty)).heap[w.heap.size]? = some (.cells #[.slice na nl nc, .int .i64 fu] ty (0, 0)) := heap_alloc_new w _
  exact ⟨(Array.getElem?_eq_some_iff.1 h).1, by rw [Lib.cell_of_heap h]; rfl, by rw [Lib.cell_of_heap h]; rfl, Lib.frozen_of_heap h 1⟩
set_option maxHeartbeats 4000000 in
theorem implFuelOk (fu : Int) (w : World) : Calls Tryz.prog 38 #[.int .i64 fu] w fun e w' => e = .returned (.bool (decide (0 ≤ fu) && decide (fu ≤ 1000))) ∧ w = w' := by
  rcases Int.lt_or_le fu 0 with c | c
  · have z : decide (0 ≤ fu) = false := decide_eq_false (by omega)
    rw [z]
    go_enter Tryz.func38, Tryz.ntmps38
    go_wp2
    go_ret
    exact ⟨rfl, rfl⟩
  · have z : decide (0 ≤ fu) = true := decide_eq_true c
    rw [z]
    generalize hb : decide (fu ≤ 1000) = b at *
    go_enter Tryz.func38, Tryz.ntmps38
    go_wp2
    go_ret
    exact ⟨rfl, rfl⟩
set_option maxHeartbeats 8000000 in
theorem implRuleOf (t : Tr) (f : Fld) (ns : List (ByteArray × Int)) (na : Option Addr) (nl nc : Nat) (fu : Int) (w : World) (h : TrF All w t f) (hs : szT t ≤ 1048576) (hp : PairsN All w na nl ns) (hnl : nl ≤ 1048576) (hL : Laid w) :
    Calls Tryz.prog 22 #[f.val, .slice na nl nc, .int .i64 fu] w fun e w' => e = .returned (.tuple #[.int .i64 (ruleOfV t ns fu).1, .int .i64 (ruleOfV t ns fu).2]) ∧ Below w.heap.size w w' := by
  have hA : Below w.heap.size w (w.alloc (RBox f)) := (Below.refl _ _).alloc (Nat.le_refl _) _
  have hArg : (w.alloc (RBox f)).heap[w.heap.size]? = some (RBox f) := heap_alloc_new w _
  have hK := Lib.hid (implRuleOk (h.kept (same_of_below hA)) hs (laid_stays hL hA))
  have hI := Lib.hid (fun W => implFuelOk fu W)
  have H := Lib.hid h
  have HA := Lib.hid hA
  have HArg := Lib.hid hArg
  have HP := Lib.hid hp
  clear h hA hs hArg hp
  unfold Fld.val
  by_cases hok : okR t
  rotate_left
  · rw [show ruleOfV t ns fu = (0, 4) from by rw [ruleOfV, if_neg (fun k => hok k.1)]]
    rw [decide_eq_false hok] at hK
    clear hok
    go_enter Tryz.func22, Tryz.ntmps22
    go_wp2_with fail
    refine hK.out.mono ?_
    rintro e w1 ⟨rfl, d1⟩
    go_wp2
    go_ret2
    exact ⟨rfl, HA.out.trans (d1.mono HA.out.size)⟩
  rw [decide_eq_true hok] at hK
  by_cases hf : 0 ≤ fu ∧ fu ≤ 1000
  rotate_left
  · rw [show ruleOfV t ns fu = (0, 4) from by rw [ruleOfV, if_neg (fun k => hf k.2)]]
    have z : (decide (0 ≤ fu) && decide (fu ≤ 1000)) = false := by
      rcases Int.lt_or_le fu 0 with c | c
      · rw [decide_eq_false (by omega)]; rfl
      · rw [decide_eq_false (p := fu ≤ 1000) (fun k => hf ⟨c, k⟩), Bool.and_false]
    rw [z] at hI
    clear hok hf z
    go_enter Tryz.func22, Tryz.ntmps22
    go_wp2_with fail
    refine hK.out.mono ?_
    rintro e w1 ⟨rfl, d1⟩
    go_wp2_with fail
    refine (hI.out _).mono ?_
    rintro e w2 ⟨rfl, d2⟩
    subst d2
    go_wp2
    go_ret2
    exact ⟨rfl, HA.out.trans (d1.mono HA.out.size)⟩
  have z : (decide (0 ≤ fu) && decide (fu ≤ 1000)) = true := by rw [decide_eq_true hf.1, decide_eq_true hf.2]; rfl
  rw [z] at hI
  have HV : Hid (ruleOfV t ns fu = ((evalT ns t fu).v, (evalT ns t fu).c)) := by show _ = _; rw [ruleOfV, if_pos ⟨hok, hf⟩]
  rw [HV.out]
  have HOK : Hid (OkP t) := okR_P hok.1
  have HF := Lib.hid hf
  clear hok hf z HV
  go_enter Tryz.func22, Tryz.ntmps22
  go_wp2_with fail
  refine hK.out.mono ?_
  rintro e w1 ⟨rfl, d1⟩
  have hB1 := Lib.hid (HA.out.trans (d1.mono HA.out.size))
  have arg1 := (d1.block _ (by simp)).trans HArg.out
  unfold RBox at arg1
  have A1 := Lib.hid arg1
  clear arg1 d1
  go_wp2_with fail
  refine (hI.out _).mono ?_
  rintro e w2 ⟨rfl, d2⟩
  subst d2
  have hX : Below w1.heap.size w1 (w1.alloc (.cells #[.slice na nl nc, .int .i64 fu] 70)) := (Below.refl _ _).alloc (Nat.le_refl _) _
  have hBX := hB1.out.trans (hX.mono hB1.out.size)
  have argx := (hX.block _ (Array.getElem?_eq_some_iff.1 A1.out).1).trans A1.out
  have y0 : (w1.alloc (.cells #[.slice na nl nc, .int .i64 fu] 70)).cell? ⟨w.heap.size, 0, none⟩ = some (.int .i64 f.op) := by rw [Lib.cell_of_heap argx]; rfl
  have y1 : (w1.alloc (.cells #[.slice na nl nc, .int .i64 fu] 70)).cell? ⟨w.heap.size, 1, none⟩ = some (.int .i64 f.num) := by rw [Lib.cell_of_heap argx]; rfl
  have y2 : (w1.alloc (.cells #[.slice na nl nc, .int .i64 fu] 70)).cell? ⟨w.heap.size, 2, none⟩ = some (.string f.name) := by rw [Lib.cell_of_heap argx]; rfl
  have y3 : (w1.alloc (.cells #[.slice na nl nc, .int .i64 fu] 70)).cell? ⟨w.heap.size, 3, none⟩ = some (.slice f.ka f.kl f.kc) := by rw [Lib.cell_of_heap argx]; rfl
  have y4 : (w1.alloc (.cells #[.slice na nl nc, .int .i64 fu] 70)).cell? ⟨w.heap.size, 4, none⟩ = some (.slice f.ma f.ml f.mc) := by rw [Lib.cell_of_heap argx]; rfl
  have hz1 : w.heap.size < w1.heap.size := (Array.getElem?_eq_some_iff.1 A1.out).1
  have hO := Lib.hid (ofCI ns _ t (Nat.le_refl _) f w1.heap.size fu na nl nc _ ((H.out.lt.kept (same_of_below hBX)).mono (fun b hb => by have := hb.2; omega)) HOK.out (ev_new w1 na nl nc fu 70) (HP.out.old hBX (by omega)) hnl HF.out.1 HF.out.2)
  have HBX := Lib.hid hBX
  have HX := Lib.hid hX
  unfold EvP Fld.val at hO
  clear hX hBX argx
  generalize hsv : evalT ns t fu = sv at *
  have HSV := Lib.hid hsv
  clear hsv
  obtain ⟨v, c, fv⟩ := sv
  dsimp only at *
  go_wp2_with fail
  refine hO.out.mono ?_
  rintro e w3 ⟨rfl, -, hg⟩
  go_wp2
  go_ret2
  exact ⟨by rw [HSV.out]; rfl, HBX.out.grown hg HBX.out.size (fun k e => by cases e; omega)⟩
end Go.Proofs.YtjphjnopdlfplaaGreatDoor
