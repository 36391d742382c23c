/-
  How many parts are left: the model's answer.
  A copy of a rule, in memory of its own.
  How large a rule is, and that two rules that read alike are alike.
-/
import Derived.Test.YtemjooejfmkkbaaGreatDoorRulePlain
import Derived.Test.YtemjooejfmkkbaaGreatDoorJ13
import Derived.Test.YtemjooejfmkkbaaGreatDoorPutL
namespace Go.Proofs.YtemjooejfmkkbaaGreatDoor
open Go.RowKit
set_option linter.unusedVariables false
set_option linter.unusedSimpArgs false

def PartsAt (t : Tr) : Prop := ∀ (f : Fld) (d : Nat) (l : Int) (w : World), TrF All w t f → 0 ≤ l → l ≤ 30 → d ≤ 100 → Calls Tryz.prog 98 #[f.val, .int .i64 (d : Int), .int .i64 l] w fun e w' => e = .returned (.int .i64 (partsT t d l)) ∧ Below w.heap.size w w'
set_option maxHeartbeats 8000000 in
theorem partsN (o n : Int) (s : ByteArray) (ks : List Tr) (ms : List (Int × Int)) (ih : ∀ t ∈ ks, PartsAt t) (hs : szT (.node o n s ks ms) ≤ 1048576) : PartsAt (.node o n s ks ms) := by
  intro f d l w h l0 l1 hd
  obtain ⟨e1, e2, e3, hm, hk, hc1, hc2⟩ := trF_iff.1 h
  obtain ⟨fo, fn, fs, ka, kl, kc, ma, ml, mc⟩ := f
  dsimp only at e1 e2 e3 hm hk hc1 hc2
  have q1 := e1.symm
  have q2 := e2.symm
  have q3 := e3.symm
  clear e1 e2 e3
  subst q1 q2 q3
  obtain rfl := hk.1
  obtain rfl := hm.1
  rw [szT] at hs
  have hz1 : s.size ≤ maxLen := by unfold maxLen; omega
  have hz2 : ks.length ≤ 1048576 := by omega
  have hz3 : ms.length ≤ 1048576 := by omega
  have HK := Lib.hid hk
  have HM := Lib.hid hm
  have IH := Lib.hid ih
  have HZ1 := Lib.hid hz1
  clear h hk hm ih hs hz1 hc1 hc2
  unfold Fld.val
  dsimp only
  have hP : partsT (.node o n s ks ms) d l = if l - 1 < 0 ∨ 6 < d ∨ ¬ PlainN o n s ks.length ms then -1 else partsL ks (d + 1) (l - 1) := by rw [partsT]
  have HP := Lib.hid hP
  clear hP
  have e0 : IntKind.i64.wrap (l - 1) = l - 1 := IntWalk.i64_in _ (by omega)
  have e9 : IntKind.i64.wrap ((d : Int) + 1) = (d : Int) + 1 := IntWalk.i64_in _ (by omega)
  have hA : Below w.heap.size w (w.alloc (.cells #[.int .i64 o, .int .i64 n, .string s, .slice ka ks.length kc, .slice ma ms.length mc] 38)) := (Below.refl _ _).alloc (Nat.le_refl _) _
  have hArg : (w.alloc (.cells #[.int .i64 o, .int .i64 n, .string s, .slice ka ks.length kc, .slice ma ms.length mc] 38)).heap[w.heap.size]? = some (.cells #[.int .i64 o, .int .i64 n, .string s, .slice ka ks.length kc, .slice ma ms.length mc] 38 (0, 0)) := heap_alloc_new w _
  have hAz : (w.alloc (.cells #[.int .i64 o, .int .i64 n, .string s, .slice ka ks.length kc, .slice ma ms.length mc] 38)).heap.size = w.heap.size + 1 := by simp
  rcases Int.lt_or_le (l - 1) 0 with c0 | c0
  · have z0 : decide (l - 1 < 0) = true := decide_eq_true c0
    have HA := Lib.hid hA
    clear hA hArg hAz
    go_enter Tryz.func98, Tryz.ntmps98
    go_wp2
    go_ret
    exact ⟨by show Ending.returned (.int .i64 (-1)) = _; rw [HP.out, if_pos (Or.inl c0)], HA.out⟩
  have z0 : decide (l - 1 < 0) = false := decide_eq_false (by omega)
  rcases Nat.lt_or_ge 6 d with c1 | c1
  · have z1 : decide ((6 : Int) < (d : Int)) = true := decide_eq_true (by omega)
    have z1' : decide (6 < d) = true := decide_eq_true c1
    have HA := Lib.hid hA
    clear hA hArg hAz
    go_enter Tryz.func98, Tryz.ntmps98
    go_wp2
    go_ret
    exact ⟨by show Ending.returned (.int .i64 (-1)) = _; rw [HP.out, if_pos (Or.inr (Or.inl c1))], HA.out⟩
  have z1 : decide ((6 : Int) < (d : Int)) = false := decide_eq_false (by omega)
  have z1' : decide (6 < d) = false := decide_eq_false (by omega)
  have HA := Lib.hid hA
  have HArg := Lib.hid hArg
  have HAz := Lib.hid hAz
  clear hA hArg hAz
  go_enter Tryz.func98, Tryz.ntmps98
  go_wp2_with fail
  refine (specPlain o n s ka ma ks.length kc ms.length mc ms _ HZ1.out hz2 (HM.out.kept (same_of_below HA.out)) hz3).mono ?_
  rintro e w1 ⟨b, rfl, hb, d1⟩
  generalize hW0 : (w.alloc (.cells #[.int .i64 o, .int .i64 n, .string s, .slice ka ks.length kc, .slice ma ms.length mc] 38)) = W0 at *
  clear hW0
  have b1 : Below w.heap.size w w1 := HA.out.trans (d1.mono (by have := HAz.out; omega))
  cases b with
  | false =>
    have hno : Hid (¬ PlainN o n s ks.length ms) := fun hp => by have := hb.out.2 hp; cases this
    go_wp2
    go_ret
    exact ⟨by show Ending.returned (.int .i64 (-1)) = _; rw [HP.out, if_pos (Or.inr (Or.inr hno.out))], b1⟩
  | true =>
    have hyes : Hid (PlainN o n s ks.length ms) := hb.out.1 rfl
    have arg1 : w1.heap[w.heap.size]? = some (.cells #[.int .i64 o, .int .i64 n, .string s, .slice ka ks.length kc, .slice ma ms.length mc] 38 (0, 0)) := (d1.block _ (by have := HAz.out; omega)).trans HArg.out
    have HArg1 := Lib.hid arg1
    have HB1 := Lib.hid b1
    clear hb d1 arg1 b1
    go_wp2_with fail
    go_loopw [7, 8] (fun vn vi wr => ∃ (k : Nat) (m : Int), k ≤ ks.length ∧ vn = .int .i64 m ∧ vi = .int .i64 k ∧ -1 ≤ m ∧ m ≤ 30 ∧ Hid (partsL (ks.drop k) (d + 1) m = partsL ks (d + 1) (l - 1)) ∧ Below w1.heap.size w1 wr) (fun _ vi _ => ks.length - (intOf vi).toNat)
    case atStart => exact ⟨0, l - 1, Nat.zero_le _, rfl, rfl, by omega, by omega, by show _ = _; rw [List.drop_zero], Below.refl _ _⟩
    case round =>
      obtain ⟨k, m, hk, rfl, rfl, m0, m1, hp, hb⟩ := hrel
      have argr : wr.heap[w.heap.size]? = some (.cells #[.int .i64 o, .int .i64 n, .string s, .slice ka ks.length kc, .slice ma ms.length mc] 38 (0, 0)) := (hb.block _ (Array.getElem?_eq_some_iff.1 HArg1.out).1).trans HArg1.out
      have ca : wr.cell? ⟨w.heap.size, 3, none⟩ = some (Value.slice ka ks.length kc) := by rw [Lib.cell_of_heap argr]; rfl
      have hbw : Below w.heap.size w wr := HB1.out.trans (hb.mono HB1.out.size)
      clear argr
      rcases Nat.lt_or_ge k ks.length with hlt | hge
      · have k1 : (k : Int) < ks.length := by omega
        have k0 : (0 : Int) ≤ k := by omega
        rcases Int.lt_or_le m 0 with hm | hm
        · have g0 : decide (0 ≤ m) = false := decide_eq_false (by omega)
          go_wp2
          go_ret
          refine ⟨?_, hbw⟩
          have h1 := hp.out
          rw [partsL_neg hm] at h1
          show Ending.returned (.int .i64 m) = _
          rw [HP.out, if_neg (by rintro (h | h | h); omega; omega; exact h hyes.out), ← h1]
        · have g0 : decide (0 ≤ m) = true := decide_eq_true hm
          obtain ⟨b, off, rfl, -, hbl, hrow⟩ := (HK.out.kept (same_of_below (N := All) hbw)).cells (by omega)
          obtain ⟨f, ⟨y0, y1, y2, y3, y4⟩, ht⟩ := hrow k hlt
          have HT := Lib.hid ht
          have HD := Lib.hid (partsL_drop ks (d + 1) m k hlt hm)
          have hlow := partsT_low ks[k] (d + 1) m hm
          have hup : partsT ks[k] (d + 1) m ≤ 30 := by
            rcases Int.lt_or_le (partsT ks[k] (d + 1) m) 0 with q | q
            · omega
            · have := partsT_le _ _ _ q; omega
          have IHk := IH.out ks[k] (List.getElem_mem _)
          have hcall : Hid (Calls Tryz.prog 98 #[f.val, .int .i64 (((d + 1 : Nat) : Nat) : Int), .int .i64 m] wr fun e w' => e = .returned (.int .i64 (partsT ks[k] (d + 1) m)) ∧ Below wr.heap.size wr w') := IHk f (d + 1) m wr HT.out hm m1 (by omega)
          clear hrow hbl ht IHk
          generalize hv : partsT ks[k] (d + 1) m = v at *
          have Hv := Lib.hid hv
          clear hv
          go_wp2_with fail
          refine hcall.out.mono ?_
          rintro e w2 ⟨rfl, d2⟩
          clear y0 y1 y2 y3 y4 hcall
          have hb2 : Below w1.heap.size w1 w2 := hb.trans (d2.mono hb.size)
          go_wp2
          go_roundw
          case rel => exact ⟨k + 1, v, by omega, rfl, by go_num, hlow, hup, by show _ = _; rw [← hp.out, HD.out], hb2⟩
          case measure => simp [intOf]; omega
      · obtain rfl : k = ks.length := by omega
        go_wp2
        go_ret
        refine ⟨?_, hbw⟩
        have h1 := hp.out
        rw [List.drop_length, partsL] at h1
        show Ending.returned (.int .i64 m) = _
        rw [HP.out, if_neg (by rintro (h | h | h); omega; omega; exact h hyes.out), ← h1]
theorem partsC : ∀ (k : Nat) (t : Tr), wT t ≤ k → szT t ≤ 1048576 → PartsAt t
  | 0, .node o n s ks ms, hw, _ => by rw [wT] at hw; omega
  | k + 1, .node o n s ks ms, hw, hs => by
    rw [wT] at hw
    exact partsN o n s ks ms (fun t ht => partsC k t (by have := wL_mem ht; omega) (by rw [szT] at hs; have := szL_mem ht; omega)) hs
end Go.Proofs.YtemjooejfmkkbaaGreatDoor

namespace Go.Proofs.YtemjooejfmkkbaaGreatDoor
open Go.RowKit
set_option linter.unusedVariables false
set_option linter.unusedSimpArgs false

theorem lt_heapT {w : World} {b : Nat} {o : Obj} (h : w.heap[b]? = some o) : b < w.heap.size := (Array.getElem?_eq_some_iff.1 h).1
theorem grown_setRowT (w : World) (g : Nat) (cs : Array Value) : w.grownBy (w.setRow g cs) (some g) := ⟨rfl, rfl, rfl, by simp, fun k _ hne => setRow_other w g k cs (by intro e; subst e; exact hne rfl)⟩
theorem RowsT.mono {N N' : Nat → Prop} (hN : ∀ b, N b → N' b) {w : World} {a : Option Addr} {n : Nat} {ks : List Tr} (h : RowsT N w a n ks) : RowsT N' w a n ks := by
  obtain ⟨h1, h2⟩ := h
  refine ⟨h1, ?_⟩
  rcases h2 with h | ⟨b, off, k1, k2, k3, k4⟩
  · exact Or.inl h
  · exact Or.inr ⟨b, off, k1, hN b k2, k3, RowF.mono hN b off ks 0 k4⟩
theorem ruleSize : (Tryz.prog.info? 38).map (·.size) = some 5 := by kernel_rfl
theorem infoRule : (Tryz.prog.info? 38).map (fun i => (i.zero, i.size, i.bytes)) = some (some (.agg #[.int .i64 0, .int .i64 0, .string ⟨#[]⟩, .slice none 0 0, .slice none 0 0]), 5, 80) := by kernel_rfl
def CopyT (t : Tr) (w : World) (e : Ending) (w' : World) : Prop := ∃ f : Fld, e = .returned f.val ∧ TrF (fun b => w.heap.size ≤ b) w' t f ∧ Below w.heap.size w w'
def CopyRow (ks : List Tr) (w : World) (e : Ending) (w' : World) : Prop := ∃ g : Nat, w.heap.size ≤ g ∧ e = .returned (.slice (some ⟨g, 0, none⟩) ks.length ks.length) ∧ RowsT (fun b => w.heap.size ≤ b) w' (some ⟨g, 0, none⟩) ks.length ks ∧ Below w.heap.size w w'
def DoneR (g k : Nat) (ks : List Tr) (xs : List Value) (W : World) : Prop := ∀ j, j < k → ∀ hj : j < ks.length, ∃ f : Fld, (∀ m, m < 5 → xs[j * 5 + m]? = (#[Value.int .i64 f.op, .int .i64 f.num, .string f.name, .slice f.ka f.kl f.kc, .slice f.ma f.ml f.mc] : Array Value)[m]?) ∧ TrF (fun b => g < b) W ks[j] f
end Go.Proofs.YtemjooejfmkkbaaGreatDoor

namespace Go.Proofs.YtemjooejfmkkbaaGreatDoor
open Go.RowKit
set_option linter.unusedVariables false
set_option linter.unusedSimpArgs false

def SzP (m : Nat) (lf : Int) (w : World) (e : Ending) (w' : World) : Prop := ∃ r : Int, -1 ≤ r ∧ r ≤ lf ∧ e = .returned (.int .i64 r) ∧ Hid (0 ≤ r → (m : Int) ≤ lf - r) ∧ Below w.heap.size w w'
def EqAt (t : Tr) : Prop := ∀ (f g : Fld) (w : World), TrF All w t f → TrF All w t g → Calls Tryz.prog 25 #[f.val, g.val] w fun e w' => e = .returned (.bool true) ∧ Below w.heap.size w w'
def EqRowAt (ks : List Tr) : Prop := ∀ (a a' : Option Addr) (n cap cap' : Nat) (w : World), RowsT All w a n ks → RowsT All w a' n ks → n ≤ 1048576 → Calls Tryz.prog 73 #[.slice a n cap, .slice a' n cap'] w fun e w' => e = .returned (.bool true) ∧ Below w.heap.size w w'
set_option maxHeartbeats 4000000 in
theorem eqRowN (ks : List Tr) (ih : ∀ t ∈ ks, EqAt t) : EqRowAt ks := by
  intro a a' n cap cap' w h h' hl
  have H := Lib.hid h
  have H' := Lib.hid h'
  have IH := Lib.hid ih
  have HN : Hid (n = ks.length) := h.1
  clear h h' ih
  go_enter Tryz.func73, Tryz.ntmps73
  go_wp2_with fail
  go_loopw [5] (fun i wr => ∃ k : Nat, k ≤ n ∧ i = .int .i64 k ∧ Below w.heap.size w wr) (fun i _ => n - (intOf i).toNat)
  case atStart => exact ⟨0, Nat.zero_le _, rfl, Below.refl _ _⟩
  case round =>
    obtain ⟨k, hk, rfl, hb⟩ := hrel
    rcases Nat.lt_or_ge k n with hlt | hge
    · have hkl : k < ks.length := by have := HN.out; omega
      obtain ⟨b, off, rfl, -, hbl, hrow⟩ := (H.out.kept (same_of_below (N := All) hb)).cells (by omega)
      obtain ⟨f, ⟨y0, y1, y2, y3, y4⟩, ht⟩ := hrow k hkl
      obtain ⟨b', off', rfl, -, hbl', hrow'⟩ := (H'.out.kept (same_of_below (N := All) hb)).cells (by omega)
      obtain ⟨f', ⟨x0, x1, x2, x3, x4⟩, ht'⟩ := hrow' k hkl
      have HT := Lib.hid ht
      have HT' := Lib.hid ht'
      have k1 : (k : Int) < n := by omega
      have k0 : (0 : Int) ≤ k := by omega
      clear hrow hbl ht hrow' hbl' ht'
      go_wp2_with fail
      go_region_with (go_at_call 25; refine (IH.out ks[k] (List.getElem_mem _) f f' _ (HT.out.kept (same_of_below (belowN (Below.refl _ wr) 1))) (HT'.out.kept (same_of_below (belowN (Below.refl _ wr) 1)))).mono ?_; rintro e w2 ⟨rfl, hb2⟩)
      all_goals
        have hb3 : Below w.heap.size w w2 := hb.trans (Below.trans (belowN (Below.refl _ _) 1) (hb2.mono hb.size))
        clear y0 y1 y2 y3 y4 x0 x1 x2 x3 x4
        go_wp2
        go_roundw
        case rel => exact ⟨k + 1, by omega, by go_num, hb3⟩
        case measure => simp [intOf]; omega
    · obtain rfl : k = n := by omega
      go_wp2
      go_ret
      exact ⟨rfl, hb⟩
set_option maxHeartbeats 4000000 in
theorem eqNodeN (o n : Int) (s : ByteArray) (ks : List Tr) (ms : List (Int × Int)) (ihk : EqRowAt ks) (hkl : ks.length ≤ 1048576) (hml : ms.length ≤ 1048576) : EqAt (.node o n s ks ms) := by
  intro f g w h h'
  obtain ⟨e1, e2, e3, hm, hk, hc1, hc2⟩ := trF_iff.1 h
  obtain ⟨fo, fn, fs, ka, kl, kc, ma, ml, mc⟩ := f
  dsimp only at e1 e2 e3 hm hk hc1 hc2
  have q1 := e1.symm
  have q2 := e2.symm
  have q3 := e3.symm
  clear e1 e2 e3
  subst q1 q2 q3
  obtain rfl := hk.1
  obtain rfl := hm.1
  obtain ⟨e1, e2, e3, hm', hk', hc1', hc2'⟩ := trF_iff.1 h'
  obtain ⟨fo, fn, fs, ka', kl', kc', ma', ml', mc'⟩ := g
  dsimp only at e1 e2 e3 hm' hk' hc1' hc2'
  have q1 := e1.symm
  have q2 := e2.symm
  have q3 := e3.symm
  clear e1 e2 e3
  subst q1 q2 q3
  obtain rfl := hk'.1
  obtain rfl := hm'.1
  have HK := Lib.hid hk
  have HM := Lib.hid hm
  have HK' := Lib.hid hk'
  have HM' := Lib.hid hm'
  clear h hk hm h' hk' hm' hc1 hc2 hc1' hc2'
  unfold Fld.val
  dsimp only
  go_enter Tryz.func25, Tryz.ntmps25
  go_wp2_with fail
  have hArg : ((w.alloc (.cells #[Value.int IntKind.i64 o, Value.int IntKind.i64 n, Value.string s, Value.slice ka ks.length kc, Value.slice ma ms.length mc] 38)).alloc (.cells #[Value.int IntKind.i64 o, Value.int IntKind.i64 n, Value.string s, Value.slice ka' ks.length kc', Value.slice ma' ms.length mc'] 38)).heap[w.heap.size]? = some (.cells #[Value.int IntKind.i64 o, Value.int IntKind.i64 n, Value.string s, Value.slice ka ks.length kc, Value.slice ma ms.length mc] 38 (0, 0)) := by
    rw [Lib.alloc_old _ _ _ (by simp only [World.size_alloc]; omega)]
    exact heap_alloc_new w _
  have hArg' : ((w.alloc (.cells #[Value.int IntKind.i64 o, Value.int IntKind.i64 n, Value.string s, Value.slice ka ks.length kc, Value.slice ma ms.length mc] 38)).alloc (.cells #[Value.int IntKind.i64 o, Value.int IntKind.i64 n, Value.string s, Value.slice ka' ks.length kc', Value.slice ma' ms.length mc'] 38)).heap[w.heap.size + 1]? = some (.cells #[Value.int IntKind.i64 o, Value.int IntKind.i64 n, Value.string s, Value.slice ka' ks.length kc', Value.slice ma' ms.length mc'] 38 (0, 0)) := by
    have := heap_alloc_new (w.alloc (.cells #[Value.int IntKind.i64 o, Value.int IntKind.i64 n, Value.string s, Value.slice ka ks.length kc, Value.slice ma ms.length mc] 38)) (.cells #[Value.int IntKind.i64 o, Value.int IntKind.i64 n, Value.string s, Value.slice ka' ks.length kc', Value.slice ma' ms.length mc'] 38)
    simpa only [World.size_alloc] using this
  have hB : Below w.heap.size w ((w.alloc (.cells #[Value.int IntKind.i64 o, Value.int IntKind.i64 n, Value.string s, Value.slice ka ks.length kc, Value.slice ma ms.length mc] 38)).alloc (.cells #[Value.int IntKind.i64 o, Value.int IntKind.i64 n, Value.string s, Value.slice ka' ks.length kc', Value.slice ma' ms.length mc'] 38)) := ((Below.refl _ _).alloc (Nat.le_refl _) _).alloc (by simp only [World.size_alloc]; omega) _
  generalize ((w.alloc (.cells #[Value.int IntKind.i64 o, Value.int IntKind.i64 n, Value.string s, Value.slice ka ks.length kc, Value.slice ma ms.length mc] 38)).alloc (.cells #[Value.int IntKind.i64 o, Value.int IntKind.i64 n, Value.string s, Value.slice ka' ks.length kc', Value.slice ma' ms.length mc'] 38)) = W0 at *
  have sA : w.heap.size + 1 < W0.heap.size := (Array.getElem?_eq_some_iff.1 hArg').1
  refine (ihk ka ka' ks.length kc kc' W0 (HK.out.kept (same_of_below hB)) (HK'.out.kept (same_of_below hB)) hkl).mono ?_
  rintro e w1 ⟨rfl, d1⟩
  have a1 := (d1.block _ (by omega)).trans hArg
  have a2 := (d1.block _ (by omega)).trans hArg'
  have b1 : Below w.heap.size w w1 := hB.trans (d1.mono hB.size)
  have ca : w1.cell? ⟨w.heap.size, 4, none⟩ = some (Value.slice ma ms.length mc) := by rw [Lib.cell_of_heap a1]; rfl
  have ca' : w1.cell? ⟨w.heap.size + 1, 4, none⟩ = some (Value.slice ma' ms.length mc') := by rw [Lib.cell_of_heap a2]; rfl
  clear hArg hArg' hB d1 a1 a2
  go_wp2_with fail
  refine (eqMarks ma ma' ms.length mc mc' (mF ms) (mP ms) w1 (marks_of_N (HM.out.kept (same_of_below b1))) (marks_of_N (HM'.out.kept (same_of_below b1))) hml).mono ?_
  rintro e w2 ⟨rfl, d2⟩
  go_wp2
  go_ret
  exact ⟨rfl, b1.trans (d2.mono b1.size)⟩
theorem eqRuleC : ∀ (k : Nat) (t : Tr), wT t ≤ k → szT t ≤ 1048576 → EqAt t
  | 0, .node o n s ks ms, hw, _ => by rw [wT] at hw; omega
  | k + 1, .node o n s ks ms, hw, hs => by
    rw [wT] at hw; rw [szT] at hs
    exact eqNodeN o n s ks ms (eqRowN ks fun t ht => eqRuleC k t (by have := wL_mem ht; omega) (by have := szL_mem ht; omega)) (by omega) (by omega)
theorem eqRule {t : Tr} {f g : Fld} {w : World} (h : TrF All w t f) (h' : TrF All w t g) (hs : szT t ≤ 1048576) : Calls Tryz.prog 25 #[f.val, g.val] w fun e w' => e = .returned (.bool true) ∧ Below w.heap.size w w' := eqRuleC _ t (Nat.le_refl _) hs f g w h h'
end Go.Proofs.YtemjooejfmkkbaaGreatDoor
