/-
  What is held of a leg as the program's linked list has it: gone over, and collected into a list of its own.
-/
import Derived.Sort.LoopGhostIn
import Derived.Test.YtbnjmdeabhikkaaLink3
import Derived.RangeFuncBox
import Derived.RangeFuncWrites
import Derived.Deep.AppendLies
namespace Go.Proofs.Ytbnjmdeabhikkaa
open Go.RowKit Go.Shelf
set_option linter.unusedVariables false
set_option linter.unusedSimpArgs false
attribute [local go_sem] Oper.semAt_some

def encN (n : Nd) : Array Value := #[.agg #[.int .i64 n.t, .int .i64 n.c, .int .i64 n.s]]
def flatN (L : List Nd) : List Value := L.flatMap fun n => [.int .i64 n.t, .int .i64 n.c, .int .i64 n.s]
theorem flatN_snoc (L : List Nd) (n : Nd) : flatN (L ++ [n]) = flatN L ++ [.int .i64 n.t, .int .i64 n.c, .int .i64 n.s] := by simp [flatN]
def NdH (n : Nd) : Array Value := #[.int .i64 n.t, .int .i64 n.c, .int .i64 n.s]
theorem take_snocN {L : List Nd} {k : Nat} {n : Nd} (h : L[k]? = some n) : L.take (k + 1) = L.take k ++ [n] := by
  rw [List.take_add_one, h]; rfl

set_option maxRecDepth 100000 in
set_option maxHeartbeats 4000000 in
theorem all_stops (B h bx : Nat) (L : List Nd) (n : Nat) (hn : 1 ≤ n) (w0 w : World) (H : HList B w0 h L) (hbx : Boxed w0 bx 58 (.pointer (some ⟨h, 0, none⟩))) (hb0 : Below w0.heap.size w0 w) :
    SeqStopsK Fence.wide n Try.prog 91 #[.pointer (some ⟨bx, 0, none⟩)] encN (Below w0.heap.size) (fun xs => xs = L) (fun _ => True) L.length w := fun l J Jx W hW0 hJ hJx hY h0 => by
  have hW := hb0.trans (hW0.mono hb0.size)
  have HY := Lib.hid hY
  have HH := Lib.hid H
  have HW := Lib.hid hW
  have cbx := (hW.cell (p := ⟨bx, 0, none⟩) hbx.lt).trans hbx.cell
  obtain ⟨chead, -⟩ := (H.kept hW).slot 0 (Nat.zero_le _)
  rw [show slotA h L 0 = ⟨h, 0, none⟩ from rfl] at chead
  have HJ := Lib.hid hJ
  have H0 := Lib.hid h0
  clear hY H hW hbx h0 hW0 hb0
  refine callsIn_of_wp Try.func91 rfl trivial ?_ rfl
  simp only [Try.ntmps91, List.size_toArray, List.length_cons, List.length_nil, Nat.reduceAdd, Nat.reduceSub, Array.replicate_succ, Array.replicate_zero, List.push_toArray, List.append_toArray, List.nil_append, List.cons_append]
  obtain ⟨q0, hq0⟩ := ptrAt_ptr L 0
  rw [hq0] at chead
  have HQ0 := Lib.hid hq0
  clear hq0
  gi_wp2_with fail
  gi_loopg [3] (L.length) (fun m p wr => ∃ k, m = L.length - k ∧ k ≤ L.length ∧ p = ptrAt L k ∧ J (L.take k) wr ∧ Below w0.heap.size w0 wr)
  case atStart => exact ⟨0, rfl, Nat.zero_le _, HQ0.out.symm, H0.out, HW.out⟩
  case round =>
    obtain ⟨k, hm, hk, rfl, hj, hb⟩ := hrel
    have HM := Lib.hid hm
    clear hm
    cases hx : L[k]? with
    | none =>
      have hkl : k = L.length := by
        rcases Nat.lt_or_ge k L.length with h1 | h1
        · rw [List.getElem?_eq_getElem h1] at hx; cases hx
        · omega
      rw [show ptrAt L k = .pointer none from by unfold ptrAt; rw [hx]; rfl]
      have HK := Lib.hid hkl
      clear hx hkl
      gi_wp2
      go_end0
      exact ⟨⟨_, rfl⟩, .inl ⟨L, rfl, by have := hj; rw [HK.out, List.take_length] at this; exact this⟩⟩
    | some n =>
      have hlt : k < L.length := by
        rcases Nat.lt_or_ge k L.length with h1 | h1
        · exact h1
        · rw [List.getElem?_eq_none h1] at hx; cases hx
      have HHr := Lib.hid (HH.out.kept hb)
      obtain ⟨c0, c1, c2, -⟩ := HHr.out.cells hx
      rw [show ptrAt L k = .pointer (some ⟨n.b, 0, none⟩) from by unfold ptrAt; rw [hx]; rfl]
      have HX := Lib.hid hx
      have hlen : (L.take k).length < L.length := by rw [List.length_take]; omega
      obtain ⟨fn, tmps, assign, body, hy, hR⟩ := HY.out (L.take k) n wr hj hlen
      dsimp only [encN] at hy
      clear hx hlen
      gi_wp2
      refine hR.mono ?_
      rintro e W3 (⟨rfl, hJ3, hk3⟩ | ⟨rfl, hJx3⟩)
      · have hb3 : Below w0.heap.size w0 W3 := hb.trans hk3
        obtain ⟨d0, d1, d2, d3⟩ := (HH.out.kept hb3).cells HX.out
        obtain ⟨q, hq⟩ := ptrAt_ptr L (k + 1)
        rw [hq] at d3
        have HQ := Lib.hid hq
        clear hq c0 c1 c2
        gi_wp2
        gi_roundg (L.length - (k + 1))
        case measure => rw [HM.out]; omega
        case rel => exact ⟨k + 1, rfl, hlt, HQ.out.symm, by rw [take_snocN HX.out]; exact hJ3, hb3⟩
      · gi_wp2
        refine bodyPost_ret (results_none rfl _ _ _) rfl ?_
        exact ⟨⟨_, rfl⟩, .inr ⟨_, trivial, hJx3⟩⟩

theorem hold_ne : 29 ≠ 35 := by decide
set_option maxRecDepth 100000 in
set_option maxHeartbeats 8000000 in
/-- What is collected: a list of the call's own, nil just where nothing is held. -/
theorem appendSeqIn (B h bx : Nat) (L : List Nd) (n : Nat) (hn : 3 ≤ n) (w : World) (H : HList B w h L) (hbx : Boxed w bx 58 (.pointer (some ⟨h, 0, none⟩))) (hL : L.length ≤ 1048576) :
    CallsIn Fence.wide n Try.prog 90 #[.slice none 0 0, .func (.func 91) #[] #[.pointer (some ⟨bx, 0, none⟩)]] w fun e W' => ∃ v, e = .returned v ∧ W'.ownsRow w.heap.size 35 3 v L.length (flatN L) ∧ (v = .slice none 0 0 ↔ L = []) ∧ Below w.heap.size w W' := by
  have h1 : 1 ≤ n := by omega
  obtain ⟨i0, hi, hz0, hz1, hz2⟩ := info_parts infoHold
  refine callsIn_of_wp_marks Try.func90 rfl trivial ?_ rfl
  simp only [Try.ntmps90, List.size_toArray, List.length_cons, List.length_nil, Nat.reduceAdd, Nat.reduceSub, Array.replicate_succ, Array.replicate_zero, List.push_toArray, List.append_toArray, List.nil_append, List.cons_append]
  gi_wp2_with fail
  have bO := Boxed.new w 29 (.slice none 0 0)
  have hB0 : Below w.heap.size w (w.alloc (.cells #[.slice none 0 0] 29)) := (Below.refl _ w).alloc (Nat.le_refl _) _
  have hst := all_stops B h bx L (n - 1) (by omega) w (w.alloc (.cells #[.slice none 0 0] 29)) H hbx hB0
  refine wpIn_rangeFunc_ownH rfl h1 (gf := 91) (lb := #[.pointer (some ⟨bx, 0, none⟩)]) rfl trivial (enters_of Try.func91 (by kernel_rfl) rfl)
    hst belowK_t (belowK_b (by simp)) (Below.refl _ _) (fun _ => rfl)
    (fun pre W => (∃ v, Boxed W w.heap.size 29 v ∧ W.ownsRow w.heap.size 35 3 v pre.length (flatN pre) ∧ (v = .slice none 0 0 ↔ pre = [])) ∧ Below w.heap.size w W)
    (fun _ _ _ => False)
    (OwnFrom.and (Own.from (holdsRow_own w.heap.size w.heap.size 29 35 3 (fun pre => pre.length) flatN (fun pre v => v = .slice none 0 0 ↔ pre = [])) _) (ownFrom_below (Nat.le_refl _) (by simp)))
    (fun _ _ _ _ _ hs _ _ => hs)
    ⟨⟨_, bO, World.ownsRow_nil _ _ _ _, by simp⟩, hB0⟩
    (fun x a' W => ∃ B', W.heap[B']? = some (.cells (NdH x) 35 (0, 0)) ∧ a' = { tmps := #[.slice none 0 0, .func (.func 91) #[] #[.pointer (some ⟨bx, 0, none⟩)], .pointer (some ⟨w.heap.size, 0, none⟩), undef, .slice none 0 0, .pointer (some ⟨B', 0, none⟩), .func (.func 91) #[] #[.pointer (some ⟨bx, 0, none⟩)], .agg (NdH x), undef, undef, undef, undef, undef], defers := [] })
    (fun x a' s X Y row hs hg hr => by
      obtain ⟨B', hb, e⟩ := hs
      refine ⟨B', (hg.block B' (lt_heap hb) (fun q => ?_)).trans hb, e⟩
      obtain ⟨-, o, ho, hc⟩ := hr B' q.symm
      rw [hb] at ho; cases ho; cases hc) ?assign ?body ?done ?stop
  case assign =>
    rintro l pre x W K ⟨⟨v, hv, hrow, hnil⟩, hB⟩ hK
    dsimp only [encN]
    have hKK := hK _ _ ((KeepsOthers.alloc W (.cells (NdH x) 35)).from _) ((Below.refl _ W).alloc hB.size _) ⟨⟨v, hv.alloc _, hrow.alloc _, hnil⟩, hB.alloc hB.size _⟩ ⟨W.heap.size, heap_alloc_new W _, rfl⟩
    unfold NdH at hKK
    gi_wp2
    exact hKK
  case body =>
    rintro l pre x a' W - - ⟨⟨v, hv, hrow, hnil⟩, hB⟩ ⟨B', hb, rfl⟩ hlt
    unfold NdH at hb ⊢
    have hc := hv.cell
    obtain ⟨b0, b1, b2⟩ := row3 hb
    have hnews : ∀ (j : Nat) (u : Value), [Value.int IntKind.i64 x.t, Value.int IntKind.i64 x.c, Value.int IntKind.i64 x.s][j]? = some u → (W.alloc (Obj.cells #[Value.int IntKind.i64 x.t, Value.int IntKind.i64 x.c, Value.int IntKind.i64 x.s] 35)).cell? ((⟨W.heap.size, 0, none⟩ : Addr).add j) = some u := World.news_of_block (heap_alloc_new W _)
    gi_wp2_with (gi_at_builtin; refine wpListIn_append_own _ rfl _ _ 29 rfl w.heap.size 35 i0 (.agg #[.int .i64 0, .int .i64 0, .int .i64 0]) 3 24 Try.underlying29 hi hz0 hz1 hz2 rfl (by decide) _ _ _ rfl (hrow.alloc _) ⟨W.heap.size, 0, none⟩ 1 1 [.int .i64 x.t, .int .i64 x.c, .int .i64 x.s] rfl rfl hnews (by simp [Value.oneCell']) (by unfold maxLen; omega) (by omega) (by have := hB.size; simp; omega) ?_; intro v' w1 hown' hgrow _; obtain ⟨g', cap', rfl⟩ := ownsRow_succ hown'; obtain ⟨hv1, hv2, hr2, hk2, hb2⟩ := hv.appended (by decide) hrow hB.size (Nat.le_refl _) hown' hgrow; have hc1 := hv1.cell; have hf1 := hv1.frozen)
    exact ⟨hk2.from _, hb2, ⟨⟨_, hv2, by rw [flatN_snoc]; simpa using hr2, by simp⟩, hB.trans hb2⟩⟩
  case done =>
    rintro D ys W hD rfl ⟨⟨v, hv, hrow, hnil⟩, hB⟩ hK
    have hc := hv.cell
    gi_wp2
    refine ⟨by simp, .inl ⟨_, _, rfl, run_takeDeferred hK, ?_⟩⟩
    exact ⟨_, results_tmp rfl _ _ _, v, rfl, ownsRow_putObj hrow _ hK rfl, hnil, hB.trans (belowK_b (w := w) (Nat.le_refl _) W D _ _ (by simp at hD; omega) hK rfl rfl)⟩
  case stop =>
    rintro D c pre W _ _ h _
    exact h.elim

set_option maxRecDepth 100000 in
set_option maxHeartbeats 4000000 in
theorem collectI (B h bx : Nat) (L : List Nd) (w : World) (H : HList B w h L) (hbx : Boxed w bx 58 (.pointer (some ⟨h, 0, none⟩))) (hL : L.length ≤ 1048576) :
    Calls Try.prog 79 #[.func (.func 91) #[] #[.pointer (some ⟨bx, 0, none⟩)]] w fun e W' => ∃ v, e = .returned v ∧ W'.ownsRow w.heap.size 35 3 v L.length (flatN L) ∧ (v = .slice none 0 0 ↔ L = []) ∧ Below w.heap.size w W' := by
  go_enter Try.func79, Try.ntmps79
  go_wp2_with fail
  refine (callsIn_wide.1 (appendSeqIn B h bx L 3 (by omega) w H hbx hL)).mono ?_
  rintro e W' ⟨v, rfl, hown, hnil, hb⟩
  have HO := Lib.hid hown
  have HN := Lib.hid hnil
  clear hown hnil
  go_wp2
  go_ret
  exact ⟨v, rfl, HO.out, HN.out, hb⟩

theorem allFn (h : Nat) (w : World) :
    Calls Try.prog 80 #[.pointer (some ⟨h, 0, none⟩)] w fun e w' => e = .returned (.func (.func 91) #[] #[.pointer (some ⟨w.heap.size, 0, none⟩)]) ∧ w' = w.alloc (.cells #[.pointer (some ⟨h, 0, none⟩)] 58) := by
  go_enter Try.func80, Try.ntmps80
  go_wp2
  go_ret
  exact ⟨rfl, rfl⟩

/-- The list of what is held as a slice has it. -/
def tN (L : List Nd) (i : Nat) : Int := (L.map (·.t)).getD i 0
def cN (L : List Nd) (i : Nat) : Int := (L.map (·.c)).getD i 0
def sN (L : List Nd) (i : Nat) : Int := (L.map (·.s)).getD i 0
theorem flatN_at : ∀ (L : List Nd) (i : Nat), i < L.length → (flatN L)[i * 3]? = some (.int .i64 (tN L i)) ∧ (flatN L)[i * 3 + 1]? = some (.int .i64 (cN L i)) ∧ (flatN L)[i * 3 + 2]? = some (.int .i64 (sN L i))
  | [], i, h => absurd h (Nat.not_lt_zero _)
  | n :: L, 0, _ => ⟨rfl, rfl, rfl⟩
  | n :: L, i + 1, h => by
    have ih := flatN_at L i (by simpa using h)
    have e : flatN (n :: L) = [.int .i64 n.t, .int .i64 n.c, .int .i64 n.s] ++ flatN L := rfl
    have e3 : (i + 1) * 3 = i * 3 + 3 := by omega
    rw [e, e3]
    refine ⟨?_, ?_, ?_⟩
    · rw [List.getElem?_append_right (by simp)]; simpa [tN] using ih.1
    · rw [List.getElem?_append_right (by simp)]; simpa [cN] using ih.2.1
    · rw [List.getElem?_append_right (by simp)]; simpa [sN] using ih.2.2
theorem flatN_len (L : List Nd) : (flatN L).length = L.length * 3 := by
  induction L with
  | nil => rfl
  | cons n L ih => simp [flatN] at ih ⊢; omega
/-- What was collected: a slice that reads as the list, in memory of its own. -/
theorem own_holds {W : World} {base : Nat} {v : Value} {L : List Nd} (h : W.ownsRow base 35 3 v L.length (flatN L)) :
    ∃ a cap, v = .slice a L.length cap ∧ L.length ≤ cap ∧ Holds W a L.length (tN L) (cN L) (sN L) := by
  rcases h.2 with ⟨rfl, h0⟩ | ⟨g, cap, cur, rfl, hb, hg, hc, -⟩
  · exact ⟨none, 0, by rw [h0], by omega, .inl h0⟩
  · refine ⟨some ⟨g, 0, none⟩, cap, rfl, hc, .inr ⟨g, 0, rfl, lt_heap hg, fun i hi => ?_⟩⟩
    have hf := flatN_at L i hi
    have hl := flatN_len L
    rw [Nat.zero_add]
    exact ⟨(h.cellAt (i * 3) (by omega)).trans hf.1, (h.cellAt (i * 3 + 1) (by omega)).trans hf.2.1, (h.cellAt (i * 3 + 2) (by omega)).trans hf.2.2⟩
end Go.Proofs.Ytbnjmdeabhikkaa
