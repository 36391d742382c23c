/-
  Ops in memory: what a transaction needs of each leg. Their size, a copy, and whether two are the same.
-/
import Derived.Test.YtblbdlbhmcollaaDoorBase
import Derived.Laws.Tables
import Derived.Maps.AppendAt
import Derived.Deep.RegionWith
import Derived.OwnWalk
namespace Go.Proofs.YtblbdlbhmcollaaDoor
open Go.RowKit
set_option linter.unusedVariables false
set_option linter.unusedSimpArgs false

theorem results_cell1 {fn : Func} {p : Tmp} {ty : TypeId} (h : fn.results = #[.cell p ty]) (tmps : Array Value) (P : Program) (w : World) :
    (results fn tmps).run P w = ((asAddr (tmps.getD p undef)).run P w).andThen fun a w₁ => (loadVar ty a).run P w₁ := by
  simp only [results, h]
  simp [Sem.run_bind, Result.andThen]
theorem grown_setRow (w : World) (g : Nat) (cs : Array Value) : w.grownBy (w.setRow g cs) (some g) := ⟨rfl, rfl, rfl, by simp, fun k _ hne => setRow_other w g k cs (by intro e; subst e; exact hne rfl)⟩
theorem lt_heap {w : World} {b : Nat} {o : Obj} (h : w.heap[b]? = some o) : b < w.heap.size := (Array.getElem?_eq_some_iff.1 h).1
theorem bt {a b c : World} (h : Below a.heap.size a b) (k : Below b.heap.size b c) : Below a.heap.size a c := h.trans (k.mono h.size)
theorem opSize : (Tryd.prog.info? 33).map (·.size) = some 4 := by kernel_rfl
theorem infoOp : (Tryd.prog.info? 33).map (fun i => (i.zero, i.size, i.bytes)) = some (some (.agg #[.string ⟨#[]⟩, .int .i64 0, .int .i64 0, .int .i64 0]), 4, 40) := by kernel_rfl
/-- What a trip needs of a leg. -/
structure OpD where
  leg : ByteArray
  cls : Int
  st : Int
  sh : Int
instance : Inhabited OpD := ⟨⟨⟨#[]⟩, 0, 0, 0⟩⟩
def OpC (d : OpD) : Array Value := #[.string d.leg, .int .i64 d.cls, .int .i64 d.st, .int .i64 d.sh]
def OpV (d : OpD) : Value := .agg (OpC d)
theorem op_one (d : OpD) : (OpC d).all (·.oneCell') = true := by simp [OpC, Value.oneCell']
def OpAt (W : World) (b o : Nat) (d : OpD) : Prop := W.cell? ⟨b, o, none⟩ = some (.string d.leg) ∧ W.cell? ⟨b, o + 1, none⟩ = some (.int .i64 d.cls) ∧ W.cell? ⟨b, o + 2, none⟩ = some (.int .i64 d.st) ∧ W.cell? ⟨b, o + 3, none⟩ = some (.int .i64 d.sh)
theorem OpAt.kept {W W' : World} {b o : Nat} {d : OpD} (h : OpAt W b o d) (hb : b < W.heap.size) (hB : Below W.heap.size W W') : OpAt W' b o d :=
  ⟨(hB.cell (p := ⟨b, o, none⟩) hb).trans h.1, (hB.cell (p := ⟨b, o + 1, none⟩) hb).trans h.2.1, (hB.cell (p := ⟨b, o + 2, none⟩) hb).trans h.2.2.1, (hB.cell (p := ⟨b, o + 3, none⟩) hb).trans h.2.2.2⟩
/-- Ops in one slice. -/
def Ops (W : World) (a : Option Addr) (n : Nat) (ds : Nat → OpD) : Prop := n = 0 ∨ ∃ b off, a = some ⟨b, off, none⟩ ∧ b < W.heap.size ∧ ∀ i, i < n → OpAt W b (off + i * 4) (ds i)
theorem Ops.kept {W W' : World} {a : Option Addr} {n : Nat} {ds : Nat → OpD} (h : Ops W a n ds) (hB : Below W.heap.size W W') : Ops W' a n ds := by
  rcases h with h | ⟨b, off, e, hb, hr⟩
  · exact .inl h
  · exact .inr ⟨b, off, e, Nat.lt_of_lt_of_le hb hB.size, fun i hi => (hr i hi).kept hb hB⟩
theorem op_cells {W : World} {b : Nat} {t : TypeId} {i : Nat × Nat} {d : OpD} (h : W.heap[b]? = some (.cells (OpC d) t i)) : OpAt W b 0 d := by
  obtain ⟨i1, i2⟩ := i
  refine ⟨?_, ?_, ?_, ?_⟩ <;> (rw [Lib.cell_of_heap h]; rfl)
def SzPostO (n : Nat) (ds : Nat → OpD) (w : World) (e : Ending) (w' : World) : Prop := ∃ r : Int, -1 ≤ r ∧ r ≤ 1048576 ∧ e = .returned (.int .i64 r) ∧ Hid (0 ≤ r → n ≤ 1048576 ∧ ∀ i, i < n → (ds i).leg.size ≤ 1048576) ∧ Below w.heap.size w w'
set_option maxHeartbeats 1000000 in
theorem szOp (d : OpD) (lf : Int) (w : World) (hd : d.leg.size ≤ 9223372036854775807) (l0 : 0 ≤ lf) (l1 : lf ≤ 1048576) :
    Calls Tryd.prog 9 #[OpV d, .int .i64 lf] w fun e w' => ∃ r : Int, -1 ≤ r ∧ r ≤ lf ∧ e = .returned (.int .i64 r) ∧ Hid (0 ≤ r → d.leg.size ≤ 1048576) ∧ Below w.heap.size w w' := by
  have hA : Below w.heap.size w (w.alloc (.cells (OpC d) 31)) := (Below.refl _ _).alloc (Nat.le_refl _) _
  have HA := Lib.hid hA
  clear hA
  unfold OpV OpC
  rcases Int.lt_or_le (lf - d.leg.size) 0 with c | c
  · have e0 : IntKind.i64.wrap (lf - (d.leg.size : Int)) = lf - d.leg.size := IntWalk.i64_in _ (by omega)
    have z0 : decide (lf - (d.leg.size : Int) < 0) = true := decide_eq_true c
    go_enter Tryd.func9, Tryd.ntmps9
    go_wp2
    go_ret
    exact ⟨-1, by omega, by omega, rfl, fun h => by omega, HA.out⟩
  · have e0 : IntKind.i64.wrap (lf - (d.leg.size : Int)) = lf - d.leg.size := IntWalk.i64_in _ (by omega)
    have z0 : decide (lf - (d.leg.size : Int) < 0) = false := decide_eq_false (by omega)
    go_enter Tryd.func9, Tryd.ntmps9
    go_wp2
    go_ret
    exact ⟨lf - d.leg.size, by omega, by omega, rfl, fun _ => by omega, HA.out⟩
set_option maxHeartbeats 4000000 in
theorem szOps (a : Option Addr) (n cap : Nat) (ds : Nat → OpD) (w : World) (h : Ops w a n ds) (hn : (n : Int) ≤ 9223372036854775807) (hw : ∀ i, i < n → (ds i).leg.size ≤ 9223372036854775807) :
    Calls Tryd.prog 4 #[.slice a n cap, .int .i64 1048576] w (SzPostO n ds w) := by
  have H := Lib.hid h
  have HW := Lib.hid hw
  clear h hw
  have e0 : IntKind.i64.wrap (1048576 - (n : Int)) = 1048576 - (n : Int) := IntWalk.i64_in _ (by omega)
  rcases Int.lt_or_le (1048576 - (n : Int)) 0 with c0 | c0
  · have z0 : decide (1048576 - (n : Int) < 0) = true := decide_eq_true c0
    go_enter Tryd.func4, Tryd.ntmps4
    go_wp2
    go_ret
    exact ⟨-1, by omega, by omega, rfl, fun h => by omega, by first | exact Below.refl _ _ | exact belowN (Below.refl _ _) _⟩
  have z0 : decide (1048576 - (n : Int) < 0) = false := decide_eq_false (by omega)
  go_enter Tryd.func4, Tryd.ntmps4
  go_wp2_with fail
  go_loopw [1, 5] (fun vl vi wr => ∃ (k : Nat) (r : Int), k ≤ n ∧ vl = .int .i64 r ∧ vi = .int .i64 k ∧ 0 ≤ r ∧ r ≤ 1048576 ∧ Hid (∀ i, i < k → (ds i).leg.size ≤ 1048576) ∧ Below w.heap.size w wr) (fun _ vi _ => n - (intOf vi).toNat)
  case atStart => exact ⟨0, _, Nat.zero_le _, rfl, rfl, c0, by omega, fun i hi => absurd hi (Nat.not_lt_zero _), Below.refl _ _⟩
  case round =>
    obtain ⟨k, r, hk, rfl, rfl, r0, r1, hf, hb⟩ := hrel
    rcases Nat.lt_or_ge k n with hlt | hge
    · rcases H.out.kept hb with hc | ⟨b, off, rfl, hbl, hrow⟩
      · omega
      obtain ⟨y0, y1, y2, y3⟩ := hrow k hlt
      have hk1 : (k : Int) < n := by omega
      have hk0 : (0 : Int) ≤ k := by omega
      clear hrow hbl
      have HV : Hid (∀ W, Calls Tryd.prog 9 #[.agg #[.string (ds k).leg, .int .i64 (ds k).cls, .int .i64 (ds k).st, .int .i64 (ds k).sh], .int .i64 r] W fun e w' => ∃ q : Int, -1 ≤ q ∧ q ≤ r ∧ e = .returned (.int .i64 q) ∧ Hid (0 ≤ q → (ds k).leg.size ≤ 1048576) ∧ Below W.heap.size W w') := fun W => szOp (ds k) r W (HW.out k hlt) r0 r1
      go_wp2_with fail
      refine (HV.out wr).mono ?_
      rintro e w1 ⟨q, q0, q1, rfl, hq, hd⟩
      have HB := Lib.hid (bt hb hd)
      clear hd y0 y1 y2 y3
      rcases Int.lt_or_le q 0 with c | c
      · have z1 : decide (q < 0) = true := decide_eq_true c
        go_wp2
        go_ret
        exact ⟨-1, by omega, by omega, rfl, fun h => by omega, HB.out⟩
      · have z1 : decide (q < 0) = false := decide_eq_false (by omega)
        have hfq := hq.out c
        go_wp2
        go_roundw
        case rel => exact ⟨k + 1, q, by omega, rfl, by go_num, c, by omega, fun i hi => by
          rcases Nat.lt_or_ge i k with u | u
          · exact hf.out i u
          · obtain rfl : i = k := by omega
            exact hfq, HB.out⟩
        case measure => simp [intOf]; omega
    · obtain rfl : k = n := by omega
      go_wp2
      go_ret
      exact ⟨r, by omega, r1, rfl, fun _ => ⟨by omega, hf.out⟩, hb⟩
theorem grown_of {w w' : World} (h : Below w.heap.size w w') : w.grownBy w' none := ⟨h.os, h.tape, h.output, h.size, fun i hi _ => h.block i hi⟩
theorem cell_of {w : World} {a : Addr} {xs : List Value} {i : Nat} (h : w.cell? a = xs[i]?) (hi : i < xs.length) : ∃ v, w.cell? a = some v := ⟨xs[i], by rw [h]; simp [hi]⟩
set_option maxHeartbeats 400000 in
theorem toOp1 (d : OpD) (w : World) :
    Calls Tryd.prog 12 #[.agg #[.string d.leg, .int .i64 d.cls, .int .i64 d.st, .int .i64 d.sh]] w fun e w' => e = .returned (.agg #[.string d.leg, .int .i64 d.cls, .int .i64 d.st, .int .i64 d.sh]) ∧ Below w.heap.size w w' := by
  obtain ⟨l, x, y, z⟩ := d
  dsimp only
  go_enter Tryd.func12, Tryd.ntmps12
  go_wp2
  (try simp only [Exit.inBlock, Exit.then])
  refine bodyPost_ret (v := .agg #[.string l, .int .i64 x, .int .i64 y, .int .i64 z]) ?_ rfl ⟨rfl, ?_⟩
  · rw [results_cell1 rfl]
    go_simp
  repeat first
    | exact Below.refl _ _
    | refine Below.alloc ?_ (by simp only [World.size_alloc]; omega) _
    | refine Below.alloc ?_ (Nat.le_refl _) _
    | refine Below.drew ?_
    | refine belowN ?_ _
set_option maxHeartbeats 400000 in
theorem eqOp1 (d : OpD) (w : World) :
    Calls Tryd.prog 16 #[.agg #[.string d.leg, .int .i64 d.cls, .int .i64 d.st, .int .i64 d.sh], .agg #[.string d.leg, .int .i64 d.cls, .int .i64 d.st, .int .i64 d.sh]] w fun e w' => e = .returned (.bool true) ∧ Below w.heap.size w w' := by
  obtain ⟨l, x, y, z⟩ := d
  dsimp only
  go_enter Tryd.func16, Tryd.ntmps16
  go_wp2
  go_ret
  refine ⟨rfl, ?_⟩
  repeat first
    | exact Below.refl _ _
    | refine Below.alloc ?_ (by simp only [World.size_alloc]; omega) _
    | refine Below.alloc ?_ (Nat.le_refl _) _
    | refine Below.drew ?_
    | refine belowN ?_ _
def CopyO (n : Nat) (ds : Nat → OpD) (w : World) (e : Ending) (w' : World) : Prop :=
  ∃ g : Nat, w.heap.size ≤ g ∧ e = .returned (.slice (some ⟨g, 0, none⟩) n n) ∧ Ops w' (some ⟨g, 0, none⟩) n ds ∧ Below w.heap.size w w'
def Done4 (k : Nat) (ds : Nat → OpD) (xs : List Value) : Prop := ∀ j, j < k → xs[j * 4]? = some (.string (ds j).leg) ∧ xs[j * 4 + 1]? = some (.int .i64 (ds j).cls) ∧ xs[j * 4 + 2]? = some (.int .i64 (ds j).st) ∧ xs[j * 4 + 3]? = some (.int .i64 (ds j).sh)
theorem done4_next {k : Nat} {ds : Nat → OpD} {xs : List Value} (h : Done4 k ds xs) (hl : k * 4 + 3 < xs.length) : Done4 (k + 1) ds ((((xs.set (k * 4) (.string (ds k).leg)).set (k * 4 + 1) (.int .i64 (ds k).cls)).set (k * 4 + 2) (.int .i64 (ds k).st)).set (k * 4 + 3) (.int .i64 (ds k).sh)) := by
  intro j hj
  by_cases e : j = k
  · subst e
    refine ⟨?_, ?_, ?_, ?_⟩
    · rw [List.getElem?_set_ne (by omega), List.getElem?_set_ne (by omega), List.getElem?_set_ne (by omega), List.getElem?_set_self (by omega)]
    · rw [List.getElem?_set_ne (by omega), List.getElem?_set_ne (by omega), List.getElem?_set_self (by simp; omega)]
    · rw [List.getElem?_set_ne (by omega), List.getElem?_set_self (by simp; omega)]
    · rw [List.getElem?_set_self (by simp; omega)]
  · obtain ⟨h0, h1, h2, h3⟩ := h j (by omega)
    refine ⟨?_, ?_, ?_, ?_⟩ <;> (rw [List.getElem?_set_ne (by omega), List.getElem?_set_ne (by omega), List.getElem?_set_ne (by omega), List.getElem?_set_ne (by omega)]; assumption)
set_option maxHeartbeats 2000000 in
theorem toOps (a : Option Addr) (n cap : Nat) (ds : Nat → OpD) (w : World) (h : Ops w a n ds) (hl : n ≤ 1048576) :
    Calls Tryd.prog 6 #[.slice a n cap] w (CopyO n ds w) := by
  obtain ⟨i0, hi, hz0, hz1, hz2⟩ := info_parts infoOp
  have Hc := Lib.hid h
  clear h
  go_enter Tryd.func6, Tryd.ntmps6
  go_wp2_with (at_make; refine wpList_make_full _ rfl _ _ 25 rfl w.heap.size 33 i0 (.agg #[.string ⟨#[]⟩, .int .i64 0, .int .i64 0, .int .i64 0]) 4 Tryd.underlying25 hi hz0 hz1 .i64 .i64 n n n rfl rfl rfl rfl ?_ ?_ ?_ ?_; rw [hz2]; omega; unfold maxLen; omega; exact Nat.le_refl _; intro w1 hown1 hgrow1)
  have hz := hgrow1.size
  have hb1 : Below w.heap.size w w1 := (Below.refl _ _).grown hgrow1 (Nat.le_refl _) (fun k e => by cases e)
  clear hgrow1
  generalize hg : w.heap.size = g at *
  have Hg := Lib.hid hg
  clear hg
  go_loopw [4] (fun i wr => ∃ k : Nat, k ≤ n ∧ i = .int .i64 k ∧ ∃ xs : List Value, wr.ownsRow g 33 4 (.slice (some ⟨g, 0, none⟩) n n) n xs ∧ Hid (Done4 k ds xs) ∧ Below g w wr) (fun i _ => n - (intOf i).toNat)
  case atStart => exact ⟨0, Nat.zero_le _, rfl, _, hown1, fun j hj => absurd hj (Nat.not_lt_zero _), hb1⟩
  case round =>
    obtain ⟨k, hk, rfl, xs, hown, hxs, hb⟩ := hrel
    rcases Nat.lt_or_ge k n with hlt | hge
    · rcases Hc.out.kept (by rw [Hg.out]; exact hb) with hc | ⟨b, off, rfl, hbl, hcell⟩
      · omega
      · obtain ⟨c0, c1, c2, c3⟩ := hcell k hlt
        have k1 : (k : Int) < n := by omega
        have k0 : (0 : Int) ≤ k := by omega
        clear hcell
        have hbw := hown.lt g rfl
        go_wp2_with fail
        refine (toOp1 (ds k) _).mono ?_
        rintro e w2 ⟨rfl, hb2⟩
        have hown2 := hown.kept (grown_of hb2) (Or.inr (by simp [Value.ownBlock]))
        have hb3 : Below g w w2 := hb.trans (hb2.mono (by omega))
        have hx := hown2.1
        have HN := Lib.hid (done4_next hxs.out (by omega))
        obtain ⟨v0, e0⟩ := cell_of (hown2.cellAt (k * 4) (by omega)) (by omega)
        obtain ⟨v1, e1⟩ := cell_of (hown2.cellAt (k * 4 + 1) (by omega)) (by omega)
        obtain ⟨v2, e2⟩ := cell_of (hown2.cellAt (k * 4 + 2) (by omega)) (by omega)
        obtain ⟨v3, e3⟩ := cell_of (hown2.cellAt (k * 4 + 3) (by omega)) (by omega)
        have f0 := hown2.frozenAt (k * 4)
        have f1 := hown2.frozenAt (k * 4 + 1)
        have f2 := hown2.frozenAt (k * 4 + 2)
        have f3 := hown2.frozenAt (k * 4 + 3)
        clear c0 c1 c2 c3
        go_wp2
        go_roundw
        case rel => exact ⟨k + 1, by omega, by go_num, _, ((((hown2.stored (k * 4) _).1.stored (k * 4 + 1) _).1.stored (k * 4 + 2) _).1.stored (k * 4 + 3) _).1, HN, (((hb3.setCell (Nat.le_refl _) _).setCell (Nat.le_refl _) _).setCell (Nat.le_refl _) _).setCell (Nat.le_refl _) _⟩
        case measure => simp [intOf]; omega
    · obtain rfl : k = n := by omega
      go_wp2
      go_ret
      have hlt : g < wr.heap.size := (hown.lt g rfl).2
      refine ⟨g, by rw [Hg.out]; exact Nat.le_refl _, rfl, ?_, by rw [Hg.out]; exact hb⟩
      refine Or.inr ⟨g, 0, rfl, hlt, fun i hi => ?_⟩
      unfold OpAt
      rw [Nat.zero_add, hown.cellAt (i * 4) (by omega), hown.cellAt (i * 4 + 1) (by omega), hown.cellAt (i * 4 + 2) (by omega), hown.cellAt (i * 4 + 3) (by omega)]
      exact hxs.out i hi
set_option maxHeartbeats 2000000 in
theorem eqOps (a a' : Option Addr) (n cap cap' : Nat) (ds : Nat → OpD) (w : World) (h : Ops w a n ds) (h' : Ops w a' n ds) (hl : n ≤ 1048576) :
    Calls Tryd.prog 8 #[.slice a n cap, .slice a' n cap'] w fun e w' => e = .returned (.bool true) ∧ Below w.heap.size w w' := by
  go_enter Tryd.func8, Tryd.ntmps8
  go_wp2_with fail
  go_loopw [5] (fun i wr => ∃ k : Nat, k ≤ n ∧ i = .int .i64 k ∧ Below w.heap.size w wr) (fun i _ => n - (intOf i).toNat)
  case atStart => exact ⟨0, Nat.zero_le _, rfl, Below.refl _ _⟩
  case round =>
    obtain ⟨k, hk, rfl, hb⟩ := hrel
    rcases Nat.lt_or_ge k n with hlt | hge
    · rcases h.kept hb with hc | ⟨b, off, rfl, hbl, hcell⟩
      · omega
      rcases h'.kept hb with hc' | ⟨b', off', rfl, hbl', hcell'⟩
      · omega
      obtain ⟨c0, c1, c2, c3⟩ := hcell k hlt
      obtain ⟨d0, d1, d2, d3⟩ := hcell' k hlt
      clear hcell hcell'
      generalize ds k = d at *
      have k1 : (k : Int) < n := by omega
      have k0 : (0 : Int) ≤ k := by omega
      go_wp2_with fail
      go_region_with (go_at_call 16; refine (eqOp1 d _).mono ?_; rintro e w2 ⟨rfl, hb2⟩)
      all_goals
        have hb3 : Below w.heap.size w w2 := hb.trans (Below.trans (belowN (Below.refl _ _) 1) (hb2.mono hb.size))
        go_wp2
        go_roundw
        case rel => exact ⟨k + 1, by omega, by go_num, hb3⟩
        case measure => simp [intOf]; omega
    · obtain rfl : k = n := by omega
      go_wp2
      go_ret
      exact ⟨rfl, hb⟩
end Go.Proofs.YtblbdlbhmcollaaDoor
