/-
  The words of a text, one by one, as the program's range over them has them: the iterator's contract.
-/
import Derived.RangeFuncNested
import Derived.RangeFuncBound
import Derived.RangeFuncCalls
import Derived.RangeFuncLeaves
import Derived.RangeFuncBox
import Derived.Maps.AppendAt
import Derived.OwnWalkIn
import Derived.TacticsInMore
import Derived.LoopNIn
import Derived.LoopIn
import Derived.Test.YtifpdamghmlcfaaDoorFirst
namespace Go.Proofs.YtifpdamghmlcfaaDoor
open Go.RowKit Go.Shelf
set_option linter.unusedVariables false
attribute [local go_sem] Oper.semAt_some

def errV (p : Addr) : Bool → Value
  | true => .nilIface
  | false => .iface 113 (.pointer (some p))
def encW (p : Addr) (x : ByteArray × Bool) : Array Value := #[.string x.1, errV p x.2]
def okL (ws : List ByteArray) : List (ByteArray × Bool) := ws.map fun x => (x, true)
theorem okL_snoc (ws : List ByteArray) (x : ByteArray) : okL (ws ++ [x]) = okL ws ++ [(x, true)] := by simp [okL]
def bad0 : ByteArray × Bool := (⟨#[]⟩, false)
def SAll (t : List UInt8) (xs : List (ByteArray × Bool)) : Prop :=
  (∃ ws, xs = okL ws ∧ t = wireL ws) ∨ ∃ ws r, xs = okL ws ++ [bad0] ∧ t = wireL ws ++ r ∧ r ≠ [] ∧ ∀ x, ¬ Begins r x
def SPart (t : List UInt8) (xs : List (ByteArray × Bool)) : Prop :=
  (∃ ws r, xs = okL ws ∧ t = wireL ws ++ r) ∨ ∃ ws r, xs = okL ws ++ [bad0] ∧ t = wireL ws ++ r ∧ r ≠ [] ∧ ∀ x, ¬ Begins r x
def strLen : Value → Nat
  | .string s => s.size
  | _ => 0

theorem abide {α : Type} {B : Nat} {J : α → World → Prop} {s : α} {w w' : World} (h : AbidesFrom B J) (hj : J s w) (hb : Below w.heap.size w w') : J s w' :=
  h s w w' none hj ⟨hb.os, hb.tape, hb.output, hb.size, fun k hk _ => hb.block k hk⟩ (fun r e => by cases e)

theorem str_ne {a : ByteArray} (h : ¬ a = ⟨#[]⟩) : a.toList.isEmpty = false := by
  rw [Lib.toList_data]
  cases hh : a.data.toList with
  | nil => exact absurd (ByteArray.ext (by simpa using hh)) h
  | cons x r => rfl
theorem rest_eq {r u x : ByteArray} (hu : u = ⟨(wire1 x).toArray⟩) (h : Begins r.data.toList x) : r.data.toList = wire1 x ++ (r.extract u.size r.size).data.toList ∧ u.size ≤ r.size := by
  obtain ⟨q, e⟩ := h
  have e1 : u.size = (wire1 x).length := by rw [hu]; show (wire1 x).toArray.size = _; simp
  have e2 : r.size = (wire1 x).length + q.length := by
    have := congrArg List.length e
    simp at this; omega
  refine ⟨?_, by omega⟩
  have e3 : (wire1 x).length + q.length - (wire1 x).length = q.length := by omega
  rw [Lib.extract_data, ← e, e1, e2, e3, List.drop_left, List.take_length]

set_option maxRecDepth 100000 in
set_option maxHeartbeats 4000000 in
theorem words_stops (p : Addr) (t : ByteArray) (n Bn : Nat) (hn : 1 ≤ n) (w0 w : World) (hL : LaidW p w0) (hb0 : Below w0.heap.size w0 w) (hBn : Bn < w.heap.size) (hc : w.cell? ⟨Bn, 0, none⟩ = some (.string t)) (hs : t.size ≤ 1048576) :
    SeqStopsK Fence.wide n Tryd.prog 30 #[.pointer (some ⟨Bn, 0, none⟩)] (encW p) (Below w0.heap.size) (SAll t.data.toList) (SPart t.data.toList) (t.size + 1) w := fun l J Jx W hW hJ hJx hY h0 => by
  have hcW : W.cell? ⟨Bn, 0, none⟩ = some (.string t) := (hW.cell (p := ⟨Bn, 0, none⟩) hBn).trans hc
  have hbW : Below w0.heap.size w0 W := hb0.trans (hW.mono hb0.size)
  have HY := Lib.hid hY
  clear hY
  refine callsIn_of_wp Tryd.func30 rfl trivial ?_ rfl
  simp only [Tryd.ntmps30, List.size_toArray, List.length_cons, List.length_nil, Nat.reduceAdd, Nat.reduceSub, Array.replicate_succ, Array.replicate_zero, List.push_toArray, List.append_toArray, List.nil_append, List.cons_append]
  gi_wp2
  gi_loopw [3] (fun v wr => ∃ (ws : List ByteArray) (r : ByteArray), v = .string r ∧ r.size ≤ 1048576 ∧ Hid (t.data.toList = wireL ws ++ r.data.toList) ∧ J (okL ws) wr ∧ Below w0.heap.size w0 wr) (fun v _ => strLen v)
  case atStart => exact ⟨[], t, rfl, hs, rfl, h0, hbW⟩
  case round =>
    obtain ⟨ws, r, rfl, hr, ht, hj, hb⟩ := hrel
    have hlen : (okL ws).length < t.size + 1 := by
      have h1 := wireL_count ws
      have h2 := congrArg List.length ht.out
      simp at h2
      simp [okL]; omega
    by_cases h0r : r = ⟨#[]⟩
    · subst h0r
      gi_wp2
      go_end0
      exact ⟨⟨_, rfl⟩, .inl ⟨okL ws, Or.inl ⟨ws, rfl, by have := ht.out; simpa using this⟩, hj⟩⟩
    · have hne : r.toList.isEmpty = false := str_ne h0r
      have Hr0 := Lib.hid h0r
      clear h0r
      gi_wp2_with fail
      refine ⟨trivial, (callsIn_wide.2 (first p r wr hr (laidW_stays hL hb))).mono ?_⟩
      rintro e w2 (⟨x, rfl, hxs, hx, hb2⟩ | ⟨rfl, hx, hb2⟩)
      · have hj2 := abide hJ hj hb2
        have hbw2 : Below w0.heap.size w0 w2 := hb.trans (hb2.mono hb.size)
        obtain ⟨fn, tmps, assign, body, hy, hR⟩ := HY.out (okL ws) (x, true) w2 hj2 hlen
        dsimp only [encW, errV] at hy
        gi_wp2
        refine hR.mono ?_
        rintro e W3 (⟨rfl, hJ3, hk3⟩ | ⟨rfl, hJx3⟩)
        · have hbw3 : Below w0.heap.size w0 W3 := hbw2.trans hk3
          have hL3 := (laidW_stays hL hbw3).1.1
          gi_wp2_with fail
          refine ⟨trivial, (callsIn_wide.2 (wordS x W3 (by omega) hL3)).mono ?_⟩
          rintro e w4 ⟨u, rfl, huz, hu, hb4, hL4⟩
          obtain ⟨hr1, hr2⟩ := rest_eq hu.out hx.out
          have hpos : 1 ≤ u.size := by
            have := wire1_pos x
            have e1 : u.size = (wire1 x).length := by rw [hu.out]; show (wire1 x).toArray.size = _; simp
            omega
          have Hr1 := Lib.hid hr1
          clear hr1
          have hbw4 : Below w0.heap.size w0 w4 := hbw3.trans (hb4.mono hbw3.size)
          have hj4 := abide hJ hJ3 hb4
          gi_wp2
          go_roundw
          case rel =>
            refine ⟨ws ++ [x], r.extract u.size r.size, rfl, ?_, ?_, by rw [okL_snoc]; exact hj4, hbw4⟩
            · rw [ByteArray.size_extract]; omega
            · show _ = _
              rw [ht.out, wireL_snoc, List.append_assoc, ← Hr1.out]
          case measure => simp only [strLen, ByteArray.size_extract]; omega
        · gi_wp2
          refine bodyPost_ret (results_none rfl _ _ _) rfl ?_
          refine ⟨⟨_, rfl⟩, .inr ⟨okL ws ++ [(x, true)], Or.inl ⟨ws ++ [x], ?_⟩, hJx3⟩⟩
          obtain ⟨q, e⟩ := hx.out
          exact ⟨q, by rw [okL_snoc], by rw [ht.out, wireL_snoc, List.append_assoc, e]⟩
      · have hj2 := abide hJ hj hb2
        obtain ⟨fn, tmps, assign, body, hy, hR⟩ := HY.out (okL ws) bad0 w2 hj2 hlen
        dsimp only [encW, errV, bad0] at hy
        have hrn : r.data.toList ≠ [] := fun h => Hr0.out (ByteArray.ext (by simpa using h))
        have Hrn := Lib.hid hrn
        clear hrn
        gi_wp2
        refine hR.mono ?_
        rintro e W3 (⟨rfl, hJ3, hk3⟩ | ⟨rfl, hJx3⟩)
        · gi_wp2
          refine bodyPost_ret (results_none rfl _ _ _) rfl ?_
          exact ⟨⟨_, rfl⟩, .inl ⟨okL ws ++ [bad0], Or.inr ⟨ws, _, rfl, ht.out, Hrn.out, hx.out⟩, hJ3⟩⟩
        · gi_wp2
          refine bodyPost_ret (results_none rfl _ _ _) rfl ?_
          exact ⟨⟨_, rfl⟩, .inr ⟨okL ws ++ [bad0], Or.inr ⟨ws, _, rfl, ht.out, Hrn.out, hx.out⟩, hJx3⟩⟩
end Go.Proofs.YtifpdamghmlcfaaDoor
