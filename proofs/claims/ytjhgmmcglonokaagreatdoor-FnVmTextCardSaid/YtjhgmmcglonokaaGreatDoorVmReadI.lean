/-
  The program's reader of programs: marks, an op, a place.
-/
import Derived.Test.YtjhgmmcglonokaaGreatDoorJ28
import Derived.Test.YtjhgmmcglonokaaGreatDoorJ32
namespace Go.Proofs.YtjhgmmcglonokaaGreatDoor
open Go.RowKit
set_option linter.unusedVariables false
set_option linter.unusedSimpArgs false

theorem makeFV (fn : Fn) (first cap : Array Value) (w : World) : (Instr.makeFunc fn first cap).run Tryz.prog w = .ok (.func fn first cap) w := rfl
set_option maxRecDepth 100000 in
set_option maxHeartbeats 1000000 in
theorem marksRC (cb : UInt8) (kb : Int) (hkb : kb = (cb.toNat : Int)) (w0 : World) (b : Nat) (s : ByteArray) (p : Nat) (w : World) (h : RdS w b s p) (hs : s.size ≤ 1048576) (hL : LaidE w0) (hB : Below w0.heap.size w0 w) (hb : w0.heap.size ≤ b) :
    Calls Tryz.prog 98 #[.pointer (some ⟨b, 0, none⟩), .int .u8 kb] w (ListPostM cb b s p w) := by
  have K := Lib.hid (listMC cb kb hkb w0 b s p w h hs hB hb (fun q W h1 h2 => markRC w0 b s q W h1 hs hL h2 hb))
  have hmf := makeFV
  clear h hL hB hkb
  go_enter Tryz.func98, Tryz.ntmps98
  go_wp2_with fail
  refine K.out.mono ?_
  rintro e w1 hP
  have HP := Lib.hid hP
  obtain ⟨hg, ⟨hn, he⟩ | ⟨l, q, g, cap, hpq, hx, hl1, hl2, hl3, hp, rfl, hown, hgb, hr⟩⟩ := hP
  · unfold Fell at he
    subst he
    clear hg hn
    go_wp2
    exact ⟨rfl, HP.out⟩
  · clear hg hx hp hown hr
    go_wp2
    go_ret
    exact HP.out
theorem opOf_some {u : List UInt8} {k : Nat} (h1 : 1 ≤ k) (h2 : k ≤ 11) (he : wordV (k : Int) = u) : opOfV u = some (k : Int) := by subst he; exact opOf_word (by omega)
theorem opOf_none {u : List UInt8} (h : ∀ j : Nat, 1 ≤ j → j < 12 → wordV (j : Int) ≠ u) : opOfV u = none := by
  unfold opOfV
  rw [List.find?_eq_none]
  intro o ho
  have hin : 1 ≤ o ∧ o ≤ 11 := by
    simp only [opsV, List.mem_cons, List.not_mem_nil, or_false] at ho
    omega
  obtain ⟨k, rfl⟩ : ∃ k : Nat, o = (k : Int) := ⟨o.toNat, by omega⟩
  have := h k (by omega) (by omega)
  simpa using this
def OpRP (b : Nat) (s : ByteArray) (p : Nat) (w : World) (e : Ending) (w' : World) : Prop :=
  w.grownBy w' (some b) ∧ ((Hid (opOfV (runOf letS (restB s p)) = none) ∧ e = Fell) ∨ ∃ (o : Int) (q : Nat), p ≤ q ∧ (1 ≤ o ∧ o ≤ 11) ∧ Hid (opOfV (runOf letS (restB s p)) = some o) ∧ Hid (restB s q = offOf letS (restB s p)) ∧ e = .returned (.int .i64 o) ∧ RdS w' b s q)
theorem bytes_eq {l : List UInt8} {u : ByteArray} : (l == u.toList) = decide (l = u.data.toList) := by
  rw [Lib.toList_data]
  by_cases h : l = u.data.toList
  · rw [decide_eq_true h, ← h]; simp
  · rw [decide_eq_false h]; simpa using h
set_option maxHeartbeats 4000000 in
theorem vmOpC (b : Nat) (s : ByteArray) (p : Nat) (w : World) (h : RdS w b s p) (hs : s.size ≤ 1048576) :
    Calls Tryz.prog 105 #[.pointer (some ⟨b, 0, none⟩)] w (OpRP b s p w) := by
  have K := Lib.hid (runC letBs b s p w h hs (by decide) (by decide))
  clear h
  unfold letBs at K
  go_enter Tryz.func105, Tryz.ntmps105
  go_wp2_with fail
  refine K.out.mono ?_
  rintro e w1 ⟨u, q, hq, rfl, hul, hu, hr, hR, hg⟩
  have HU : Hid (u.data.toList = runOf letS (restB s p)) := hu
  have HQ : Hid (restB s q = offOf letS (restB s p)) := hr
  have HG := Lib.hid hg
  have HR := Lib.hid hR
  clear hu hr hg hR K
  go_wp2_with fail
  go_loopw [4] (fun vi wr => ∃ k : Nat, vi = .int .i64 k ∧ 1 ≤ k ∧ k ≤ 12 ∧ Hid (∀ j : Nat, 1 ≤ j → j < k → wordV (j : Int) ≠ u.data.toList) ∧ Below w1.heap.size w1 wr) (fun vi _ => 12 - (intOf vi).toNat)
  case atStart => exact ⟨1, rfl, by omega, by omega, Lib.hid (fun j a b => by omega), Below.refl _ _⟩
  case round =>
    obtain ⟨k, rfl, k1, k12, hn, hb⟩ := hrel
    have HB := Lib.hid hb
    rcases Nat.lt_or_ge k 12 with hlt | hge
    · have i1 : (k : Int) ≤ 11 := by omega
      have W := Lib.hid (vmWordI (k : Int) wr ⟨by omega, by omega⟩)
      clear hb
      go_wp2_with fail
      refine W.out.mono ?_
      rintro e w2 ⟨rfl, hb2⟩
      have hb3 := HB.out.trans (hb2.mono HB.out.size)
      have HB3 := Lib.hid hb3
      have hz := bytes_eq (l := wordV (k : Int)) (u := u)
      clear hb2
      by_cases hc : wordV (k : Int) = u.data.toList
      · rw [decide_eq_true hc] at hz
        have HO := Lib.hid (opOf_some k1 (by omega) hc)
        clear hc hb3
        go_wp2
        go_ret
        refine ⟨?_, Or.inr ⟨(k : Int), q, hq, ⟨by omega, by omega⟩, Lib.hid ?_, HQ, rfl, HR.out.kept HB3.out⟩⟩
        · have := HB3.out
          exact grown_trans HG.out ⟨this.os, this.tape, this.output, this.size, fun i hi _ => this.block i hi⟩
        · rw [← HU.out]; exact HO.out
      · rw [decide_eq_false hc] at hz
        have HC : Hid (∀ j : Nat, 1 ≤ j → j < k + 1 → wordV (j : Int) ≠ u.data.toList) := Lib.hid (fun j a c => by
          by_cases e : j = k
          · subst e; exact hc
          · exact hn.out j a (by omega))
        clear hc hb3
        go_wp2
        go_roundw
        case rel => exact ⟨k + 1, by go_num, by omega, by omega, HC, HB3.out⟩
        case measure => simp [intOf]; omega
    · obtain rfl : k = 12 := by omega
      have i1 : ¬ ((12 : Int) ≤ 11) := by omega
      have HC := Lib.hid (opOf_none hn.out)
      clear hb
      go_wp2
      refine ⟨rfl, ?_, Or.inl ⟨Lib.hid ?_, rfl⟩⟩
      · have := HB.out
        exact grown_trans HG.out ⟨this.os, this.tape, this.output, this.size, fun i hi _ => this.block i hi⟩
      · rw [← HU.out]; exact HC.out
/-! A place. -/
theorem rdPl_fellO {l : List UInt8} (h : opOfV (runOf letS l) = none) : rdPl l = none := by unfold rdPl; rw [h]; rfl
theorem rdPl_fellA {l : List UInt8} {o : Int} (h : opOfV (runOf letS l) = some o) (h2 : rdArg o (offOf letS l) = none) : rdPl l = none := by unfold rdPl; rw [h, Option.bind_some, h2]; rfl
theorem rdPl_fellB {l r : List UInt8} {o : Int} {d : Pl} (h : opOfV (runOf letS l) = some o) (h2 : rdArg o (offOf letS l) = some (d, r)) (h3 : rdNext 10 r = none) : rdPl l = none := by unfold rdPl; rw [h, Option.bind_some, h2, Option.bind_some]; simp only; rw [h3]; rfl
theorem rdPl_good {l r r' : List UInt8} {o : Int} {d : Pl} (h : opOfV (runOf letS l) = some o) (h2 : rdArg o (offOf letS l) = some (d, r)) (h3 : rdNext 10 r = some r') : rdPl l = some (d, r') := by unfold rdPl; rw [h, Option.bind_some, h2, Option.bind_some]; simp only; rw [h3]; rfl
theorem argA_none1 {o : Int} {l : List UInt8} (c : o = 1 ∨ o = 9 ∨ o = 11) (h : rdNext 32 l = none) : rdArg o l = none := by unfold rdArg; rw [if_pos c, h]; rfl
theorem argA_none2 {o : Int} {l r : List UInt8} (c : o = 1 ∨ o = 9 ∨ o = 11) (h : rdNext 32 l = some r) (h2 : rdNum r = none) : rdArg o l = none := by unfold rdArg; rw [if_pos c, h, Option.bind_some, h2]; rfl
theorem argA_good {o v : Int} {l r r' : List UInt8} (c : o = 1 ∨ o = 9 ∨ o = 11) (h : rdNext 32 l = some r) (h2 : rdNum r = some (v, r')) : rdArg o l = some (⟨o, v, ⟨#[]⟩, []⟩, r') := by unfold rdArg; rw [if_pos c, h, Option.bind_some, h2]; rfl
theorem argB_none {l : List UInt8} (h : rdNext 32 l = none) : rdArg 2 l = none := by unfold rdArg; rw [if_neg (by decide), if_pos rfl, h]; rfl
theorem argB_good {l r : List UInt8} {u : ByteArray} (h : rdNext 32 l = some r) (h2 : u.data.toList = runOf letS r) : rdArg 2 l = some (⟨2, 0, u, []⟩, offOf letS r) := by unfold rdArg; rw [if_neg (by decide), if_pos rfl, h, Option.bind_some, ← h2, bytesL]
theorem argC_none1 {l : List UInt8} (h : rdNext 32 l = none) : rdArg 10 l = none := by unfold rdArg; rw [if_neg (by decide), if_neg (by decide), if_pos rfl, h]; rfl
theorem argC_none2 {l r : List UInt8} (h : rdNext 32 l = some r) (h2 : rdList 32 rdMark r = none) : rdArg 10 l = none := by unfold rdArg; rw [if_neg (by decide), if_neg (by decide), if_pos rfl, h, Option.bind_some, h2]; rfl
theorem argC_good {l r r' : List UInt8} {ms : List (Int × Int)} (h : rdNext 32 l = some r) (h2 : rdList 32 rdMark r = some (ms, r')) : rdArg 10 l = some (⟨10, 0, ⟨#[]⟩, ms⟩, r') := by unfold rdArg; rw [if_neg (by decide), if_neg (by decide), if_pos rfl, h, Option.bind_some, h2]; rfl
theorem argD {o : Int} {l : List UInt8} (c1 : ¬ (o = 1 ∨ o = 9 ∨ o = 11)) (c2 : ¬ o = 2) (c3 : ¬ o = 10) : rdArg o l = some (⟨o, 0, ⟨#[]⟩, []⟩, l) := by unfold rdArg; rw [if_neg c1, if_neg c2, if_neg c3]
def PlRP (b : Nat) (s : ByteArray) (p : Nat) (w : World) (e : Ending) (w' : World) : Prop :=
  w.grownBy w' (some b) ∧ ((Hid (rdPl (restB s p) = none) ∧ e = Fell) ∨ ∃ (d : Pl) (f : FI) (q : Nat), p < q ∧ d.nm.size ≤ s.size ∧ d.ms.length ≤ s.size + 1 ∧ Hid (rdPl (restB s p) = some (d, restB s q)) ∧ e = .returned (.agg #[.int .i64 f.op, .int .i64 f.num, .string f.name, .slice f.ma f.ml f.mc]) ∧ PlO w.heap.size w' d f ∧ RdS w' b s q)
theorem insOne (o n : Int) (s : ByteArray) (a : Option Addr) (m c : Nat) : (#[Value.int .i64 o, .int .i64 n, .string s, .slice a m c] : Array Value).all (·.oneCell') = true := by simp [Value.oneCell']
/-- The four cells of a place in its own block. -/
def Cell4 (w : World) (g : Nat) (o n : Int) (s : ByteArray) (v : Value) : Prop := w.cell? ⟨g, 0, none⟩ = some (.int .i64 o) ∧ w.cell? ⟨g, 1, none⟩ = some (.int .i64 n) ∧ w.cell? ⟨g, 2, none⟩ = some (.string s) ∧ w.cell? ⟨g, 3, none⟩ = some v
def Open4 (w : World) (g : Nat) : Prop := w.frozen? ⟨g, 1, none⟩ = false ∧ w.frozen? ⟨g, 2, none⟩ = false ∧ w.frozen? ⟨g, 3, none⟩ = false
theorem Cell4.kept {w w' : World} {g b : Nat} {o n : Int} {s : ByteArray} {v : Value} (h : Cell4 w g o n s v) (hg : w.grownBy w' (some b)) (hl : g < w.heap.size) (hn : g ≠ b) : Cell4 w' g o n s v := by
  have e := grown_blockR hg hl hn
  exact ⟨(World.cell?_of_block (a := ⟨g, 0, none⟩) e).trans h.1, (World.cell?_of_block (a := ⟨g, 1, none⟩) e).trans h.2.1, (World.cell?_of_block (a := ⟨g, 2, none⟩) e).trans h.2.2.1, (World.cell?_of_block (a := ⟨g, 3, none⟩) e).trans h.2.2.2⟩
theorem Open4.kept {w w' : World} {g b : Nat} (h : Open4 w g) (hg : w.grownBy w' (some b)) (hl : g < w.heap.size) (hn : g ≠ b) : Open4 w' g := by
  have e := grown_blockR hg hl hn
  exact ⟨(World.frozen?_of_block (a := ⟨g, 1, none⟩) e).trans h.1, (World.frozen?_of_block (a := ⟨g, 2, none⟩) e).trans h.2.1, (World.frozen?_of_block (a := ⟨g, 3, none⟩) e).trans h.2.2⟩
theorem Cell4.set1 {w : World} {g : Nat} {o n : Int} {s : ByteArray} {v : Value} (h : Cell4 w g o n s v) (x : Int) : Cell4 (w.setCell ⟨g, 1, none⟩ (.int .i64 x)) g o x s v :=
  ⟨by rw [World.cell?_setCell_other _ _ _ _ (by simp)]; exact h.1, World.cell?_setCell_same _ _ _ h.2.1, by rw [World.cell?_setCell_other _ _ _ _ (by simp)]; exact h.2.2.1, by rw [World.cell?_setCell_other _ _ _ _ (by simp)]; exact h.2.2.2⟩
theorem Cell4.set2 {w : World} {g : Nat} {o n : Int} {s : ByteArray} {v : Value} (h : Cell4 w g o n s v) (x : ByteArray) : Cell4 (w.setCell ⟨g, 2, none⟩ (.string x)) g o n x v :=
  ⟨by rw [World.cell?_setCell_other _ _ _ _ (by simp)]; exact h.1, by rw [World.cell?_setCell_other _ _ _ _ (by simp)]; exact h.2.1, World.cell?_setCell_same _ _ _ h.2.2.1, by rw [World.cell?_setCell_other _ _ _ _ (by simp)]; exact h.2.2.2⟩
theorem Cell4.set3 {w : World} {g : Nat} {o n : Int} {s : ByteArray} {v : Value} (h : Cell4 w g o n s v) (x : Value) : Cell4 (w.setCell ⟨g, 3, none⟩ x) g o n s x :=
  ⟨by rw [World.cell?_setCell_other _ _ _ _ (by simp)]; exact h.1, by rw [World.cell?_setCell_other _ _ _ _ (by simp)]; exact h.2.1, by rw [World.cell?_setCell_other _ _ _ _ (by simp)]; exact h.2.2.1, World.cell?_setCell_same _ _ _ h.2.2.2⟩
set_option maxRecDepth 100000 in
set_option maxHeartbeats 16000000 in
theorem placeC (w0 : World) (b : Nat) (s : ByteArray) (p : Nat) (w : World) (h : RdS w b s p) (hs : s.size ≤ 1048576) (hL : LaidE w0) (hB : Below w0.heap.size w0 w) (hb : w0.heap.size ≤ b) :
    Calls Tryz.prog 71 #[.pointer (some ⟨b, 0, none⟩)] w (PlRP b s p w) := by
  have hA : Below w.heap.size w (w.alloc (.cells #[.int .i64 0, .int .i64 0, .string ⟨#[]⟩, .slice none 0 0] 48)) := (Below.refl _ _).alloc (Nat.le_refl _) _
  have hlt := h.lt
  have K := Lib.hid (vmOpC b s p _ (h.kept hA) hs)
  have M : Hid (∀ (q : Nat) (W : World), RdS W b s q → Below w0.heap.size w0 W → Calls Tryz.prog 93 #[.pointer (some ⟨b, 0, none⟩)] W (RdNumPost b s q W)) := fun q W h1 h2 => numberC w0 b s q W h1 hs hL h2 hb
  have MM : Hid (∀ (q : Nat) (W : World), RdS W b s q → Below w0.heap.size w0 W → Calls Tryz.prog 98 #[.pointer (some ⟨b, 0, none⟩), .int .u8 32] W (ListPostM 32 b s q W)) := fun q W h1 h2 => marksRC 32 32 rfl w0 b s q W h1 hs hL h2 hb
  have HB := Lib.hid (hB.trans (hA.mono hB.size))
  have HA : Hid (w.grownBy (w.alloc (.cells #[.int .i64 0, .int .i64 0, .string ⟨#[]⟩, .slice none 0 0] 48)) (some b)) := ⟨hA.os, hA.tape, hA.output, hA.size, fun i hi _ => hA.block i hi⟩
  have HX0 : Hid ((w.alloc (.cells #[.int .i64 0, .int .i64 0, .string ⟨#[]⟩, .slice none 0 0] 48)).heap[w.heap.size]? = some (.cells #[.int .i64 0, .int .i64 0, .string ⟨#[]⟩, .slice none 0 0] 48 (0, 0))) := heap_alloc_new w _
  have hz : w.heap.size < (w.alloc (.cells #[.int .i64 0, .int .i64 0, .string ⟨#[]⟩, .slice none 0 0] 48)).heap.size := by simp
  clear h hL hB hA
  go_enter Tryz.func71, Tryz.ntmps71
  go_wp2_with fail
  generalize hwA : w.alloc (.cells #[.int .i64 0, .int .i64 0, .string ⟨#[]⟩, .slice none 0 0] 48) = wA at *
  generalize hgx : w.heap.size = g at *
  refine K.out.mono ?_
  rintro e w1 ⟨hg0, ⟨hn1, he⟩ | ⟨o, q0, hq0, ho, hop, hoq, rfl, hr1⟩⟩
  · unfold Fell at he
    subst he
    have HGf := Lib.hid (grown_trans HA.out hg0)
    have HNf := Lib.hid hn1
    clear hg0 hn1
    go_wp2
    exact ⟨rfl, HGf.out, Or.inl ⟨Lib.hid (rdPl_fellO HNf.out.out), rfl⟩⟩
  have HOP : Hid (opOfV (runOf letS (restB s p)) = some o) := hop
  have HOQ : Hid (restB s q0 = offOf letS (restB s p)) := hoq
  have HGa := Lib.hid (grown_trans HA.out hg0)
  have HX1 := Lib.hid ((grown_blockR hg0 (by omega) (by omega)).trans HX0.out)
  have hB1 := own_below HB.out hb hg0
  have hz1 : g < w1.heap.size := Nat.lt_of_lt_of_le hz hg0.size
  have hzb1 : b < w1.heap.size := hr1.lt
  have HXn : Hid ((w1.alloc (.cells #[.int .i64 0, .int .i64 0, .string ⟨#[]⟩, .slice none 0 0] 48)).heap[w1.heap.size]? = some (.cells #[.int .i64 0, .int .i64 0, .string ⟨#[]⟩, .slice none 0 0] 48 (0, 0))) := heap_alloc_new w1 _
  have hAn : Below w1.heap.size w1 (w1.alloc (.cells #[.int .i64 0, .int .i64 0, .string ⟨#[]⟩, .slice none 0 0] 48)) := (Below.refl _ _).alloc (Nat.le_refl _) _
  have hR2 := setRow_heap _ w1.heap.size _ #[Value.int .i64 o, .int .i64 0, .string ⟨#[]⟩, .slice none 0 0] _ _ HXn.out
  have hG2 : w1.grownBy ((w1.alloc (.cells #[.int .i64 0, .int .i64 0, .string ⟨#[]⟩, .slice none 0 0] 48)).setRow w1.heap.size #[Value.int .i64 o, .int .i64 0, .string ⟨#[]⟩, .slice none 0 0]) (some b) := grown_own (grown_new w1 _ (some b)) (grown_setRowT _ _ _) (Nat.le_refl _)
  have HRd2 := Lib.hid ((hr1.kept hAn).grown (grown_setRowT (w1.alloc (.cells #[.int .i64 0, .int .i64 0, .string ⟨#[]⟩, .slice none 0 0] 48)) w1.heap.size #[Value.int .i64 o, .int .i64 0, .string ⟨#[]⟩, .slice none 0 0]) (by omega))
  have HC2 : Hid (Cell4 ((w1.alloc (.cells #[.int .i64 0, .int .i64 0, .string ⟨#[]⟩, .slice none 0 0] 48)).setRow w1.heap.size #[Value.int .i64 o, .int .i64 0, .string ⟨#[]⟩, .slice none 0 0]) w1.heap.size o 0 ⟨#[]⟩ (.slice none 0 0)) := by
    refine ⟨?_, ?_, ?_, ?_⟩ <;> (rw [Lib.cell_of_heap hR2]; rfl)
  have HF2 : Hid (Open4 ((w1.alloc (.cells #[.int .i64 0, .int .i64 0, .string ⟨#[]⟩, .slice none 0 0] 48)).setRow w1.heap.size #[Value.int .i64 o, .int .i64 0, .string ⟨#[]⟩, .slice none 0 0]) w1.heap.size) :=
    ⟨frozen_of_row _ _ 1 _ _ hR2, frozen_of_row _ _ 2 _ _ hR2, frozen_of_row _ _ 3 _ _ hR2⟩
  have HG2 := Lib.hid (grown_trans HGa.out hG2)
  have HX2 := Lib.hid ((grown_blockR hG2 hz1 (by omega)).trans HX1.out)
  have HB2 := Lib.hid (own_below hB1 hb hG2)
  have hz2 : w1.heap.size < ((w1.alloc (.cells #[.int .i64 0, .int .i64 0, .string ⟨#[]⟩, .slice none 0 0] 48)).setRow w1.heap.size #[Value.int .i64 o, .int .i64 0, .string ⟨#[]⟩, .slice none 0 0]).heap.size := lt_heapT hR2
  clear hop hoq hg0 hB1 hr1 K HX0 HA hz HX1 HGa hAn hR2 hG2 hwA
  go_upto_region 2 with (first
    | (refine wpList_store_row rfl 48 _ _ rfl w1.heap.size #[Value.int .i64 o, .int .i64 0, .string ⟨#[]⟩, .slice none 0 0] rfl rfl 48 #[.int .i64 0, .int .i64 0, .string ⟨#[]⟩, .slice none 0 0] HXn.out insSize rfl (insOne _ _ _ _ _ _) ?_)
    | fail)
  clear HXn
  generalize (w1.alloc (.cells #[.int .i64 0, .int .i64 0, .string ⟨#[]⟩, .slice none 0 0] 48)).setRow w1.heap.size #[Value.int .i64 o, .int .i64 0, .string ⟨#[]⟩, .slice none 0 0] = w2 at *
  generalize hg2x : w1.heap.size = g2 at *
  have hg2b : g2 ≠ b := by omega
  have hgb : g ≠ b := by omega
  have hgg : g2 ≠ g := by omega
  have hm1 := hgx
  by_cases e1 : o = 1
  · subst e1
    have hka := Lib.hid (needC 32 32 rfl b s q0 w2 HRd2.out hs)
    obtain ⟨c0, c1, c2, c3⟩ := HC2.out
    obtain ⟨f1, f2, f3⟩ := HF2.out
    go_wp2_with fail
    clear c0 c1 c2 c3 f1 f2 f3
    refine hka.out.mono ?_
    rintro e wna ⟨hgn, ⟨hnn, he⟩ | ⟨hnn, rfl, hrn⟩⟩
    · unfold Fell at he
      subst he
      have HGf := Lib.hid (grown_trans HG2.out hgn)
      have HNf := Lib.hid hnn
      clear hgn hnn
      go_wp2
      exact ⟨rfl, HGf.out, Or.inl ⟨Lib.hid (rdPl_fellA HOP.out (argA_none1 (by decide) (by rw [← HOQ.out]; exact HNf.out))), rfl⟩⟩
    have HNa := Lib.hid hnn
    have HGa := Lib.hid (grown_trans HG2.out hgn)
    have HXa := Lib.hid ((grown_blockR hgn (by omega) hgb).trans HX2.out)
    have HCa := Lib.hid (HC2.out.kept hgn (by omega) hg2b)
    have HFa := Lib.hid (HF2.out.kept hgn (by omega) hg2b)
    have HBa := Lib.hid (own_below HB2.out hb hgn)
    have hza : g2 < wna.heap.size := Nat.lt_of_lt_of_le hz2 hgn.size
    have HRda := Lib.hid hrn
    clear hgn hnn hrn hka
    clear HG2 HX2 HC2 HF2 HB2 HRd2
    have hkb := Lib.hid (M.out _ _ HRda.out HBa.out)
    obtain ⟨c0, c1, c2, c3⟩ := HCa.out
    obtain ⟨f1, f2, f3⟩ := HFa.out
    go_wp2_with fail
    clear c0 c1 c2 c3 f1 f2 f3
    refine hkb.out.mono ?_
    rintro e wb ⟨hgn, ⟨hnn, he⟩ | ⟨v, q1, hq1, hnn, rfl, hrn⟩⟩
    · unfold Fell at he
      subst he
      have HGf := Lib.hid (grown_trans HGa.out hgn)
      have HNf := Lib.hid hnn
      clear hgn hnn
      go_wp2
      exact ⟨rfl, HGf.out, Or.inl ⟨Lib.hid (rdPl_fellA HOP.out (argA_none2 (by decide) (by rw [← HOQ.out]; exact HNa.out) HNf.out.out)), rfl⟩⟩
    have HV : Hid (rdNum (restB s (q0 + 1)) = some (v, restB s q1)) := hnn
    have HGb := Lib.hid (grown_trans HGa.out hgn)
    have HXb := Lib.hid ((grown_blockR hgn (by omega) hgb).trans HXa.out)
    have HCb := Lib.hid (HCa.out.kept hgn (by omega) hg2b)
    have HFb := Lib.hid (HFa.out.kept hgn (by omega) hg2b)
    have HBb := Lib.hid (own_below HBa.out hb hgn)
    have hzb : g2 < wb.heap.size := Nat.lt_of_lt_of_le hza hgn.size
    have HRdb := Lib.hid hrn
    clear hgn hnn hrn hkb
    clear HGa HXa HCa HFa HBa HRda
    have hs1 := grown_set wb ⟨g2, 1, none⟩ (.int .i64 v)
    have HGc := Lib.hid (grown_own HGb.out hs1 (by show w.heap.size ≤ g2; omega))
    have HXc := Lib.hid ((grown_blockR (b := g2) hs1 (by omega) (by omega)).trans HXb.out)
    have HCc := Lib.hid (HCb.out.set1 v)
    have HFc : Hid (Open4 (wb.setCell ⟨g2, 1, none⟩ (.int .i64 v)) g2) := by
      have k := HFb.out
      exact ⟨by simpa using k.1, by simpa using k.2.1, by simpa using k.2.2⟩
    have HBc := Lib.hid (HBb.out.setCell (p := ⟨g2, 1, none⟩) (show w0.heap.size ≤ g2 by omega) (.int .i64 v))
    have HRdc := Lib.hid (HRdb.out.grown hs1 hg2b)
    have hzc : g2 < (wb.setCell ⟨g2, 1, none⟩ (.int .i64 v)).heap.size := by simpa [World.setCell] using hzb
    obtain ⟨c0, c1, c2, c3⟩ := HCb.out
    obtain ⟨f1, f2, f3⟩ := HFb.out
    go_upto_region 14 with fail
    clear c0 c1 c2 c3 f1 f2 f3
    clear HGb HXb HCb HFb HBb HRdb
    clear hs1
    generalize wb.setCell ⟨g2, 1, none⟩ (.int .i64 v) = wc at *
    have hke := Lib.hid (needC 10 10 rfl b s q1 wc HRdc.out hs)
    obtain ⟨c0, c1, c2, c3⟩ := HCc.out
    obtain ⟨f1, f2, f3⟩ := HFc.out
    go_wp2_with fail
    clear c0 c1 c2 c3 f1 f2 f3
    refine hke.out.mono ?_
    rintro e wne ⟨hgn, ⟨hnn, he⟩ | ⟨hnn, rfl, hrn⟩⟩
    · unfold Fell at he
      subst he
      have HGf := Lib.hid (grown_trans HGc.out hgn)
      have HNf := Lib.hid hnn
      clear hgn hnn
      go_wp2
      exact ⟨rfl, HGf.out, Or.inl ⟨Lib.hid (rdPl_fellB HOP.out (argA_good (by decide) (by rw [← HOQ.out]; exact HNa.out) HV.out) HNf.out), rfl⟩⟩
    have HNe := Lib.hid hnn
    have HGe := Lib.hid (grown_trans HGc.out hgn)
    have HXe := Lib.hid ((grown_blockR hgn (by omega) hgb).trans HXc.out)
    have HCe := Lib.hid (HCc.out.kept hgn (by omega) hg2b)
    have HFe := Lib.hid (HFc.out.kept hgn (by omega) hg2b)
    have HBe := Lib.hid (own_below HBc.out hb hgn)
    have hze : g2 < wne.heap.size := Nat.lt_of_lt_of_le hzc hgn.size
    have HRde := Lib.hid hrn
    clear hgn hnn hrn hke
    clear HGc HXc HCc HFc HBc HRdc
    obtain ⟨c0, c1, c2, c3⟩ := HCe.out
    obtain ⟨f1, f2, f3⟩ := HFe.out
    go_wp2_with (first
      | (refine wpList_store_row rfl 48 _ _ rfl g #[Value.int .i64 1, .int .i64 v, .string ⟨#[]⟩, .slice none 0 0] rfl rfl 48 #[.int .i64 0, .int .i64 0, .string ⟨#[]⟩, .slice none 0 0] HXe.out insSize rfl (insOne _ _ _ _ _ _) ?_)
      | fail)
    have hB5 : wne.grownBy (wne.setRow g #[Value.int .i64 1, .int .i64 v, .string ⟨#[]⟩, .slice none 0 0]) (some g) := grown_setRowT _ _ _
    have R5 := setRow_heap _ g _ #[Value.int .i64 1, .int .i64 v, .string ⟨#[]⟩, .slice none 0 0] _ _ HXe.out
    have y : Cell4 (wne.setRow g #[Value.int .i64 1, .int .i64 v, .string ⟨#[]⟩, .slice none 0 0]) g 1 v ⟨#[]⟩ (.slice none 0 0) := by
      refine ⟨?_, ?_, ?_, ?_⟩ <;> (rw [Lib.cell_of_heap R5]; rfl)
    have hR5 : RdS (wne.setRow g #[Value.int .i64 1, .int .i64 v, .string ⟨#[]⟩, .slice none 0 0]) b s (q1 + 1) := HRde.out.grown hB5 hgb
    have hG5 : w.grownBy (wne.setRow g #[Value.int .i64 1, .int .i64 v, .string ⟨#[]⟩, .slice none 0 0]) (some b) := grown_own HGe.out hB5 (by omega)
    have hO5 : PlO w.heap.size (wne.setRow g #[Value.int .i64 1, .int .i64 v, .string ⟨#[]⟩, .slice none 0 0]) ⟨1, v, ⟨#[]⟩, []⟩ ⟨1, v, ⟨#[]⟩, none, 0, 0⟩ := ⟨rfl, rfl, rfl, rfl, World.ownsRow_nil _ _ _ _⟩
    have HDd : Hid (rdPl (restB s p) = some (⟨1, v, ⟨#[]⟩, []⟩, restB s (q1 + 1))) := Lib.hid (rdPl_good HOP.out (argA_good (by decide) (by rw [← HOQ.out]; exact HNa.out) HV.out) HNe.out)
    clear c0 c1 c2 c3 f1 f2 f3
    clear R5
    generalize wne.setRow g #[Value.int .i64 1, .int .i64 v, .string ⟨#[]⟩, .slice none 0 0] = w5 at *
    obtain ⟨y0, y1, y2, y3⟩ := y
    (try simp only [Exit.inBlock, Exit.then])
    refine bodyPost_ret (v := .agg #[.int .i64 1, .int .i64 v, .string ⟨#[]⟩, .slice none 0 0]) ?_ rfl ⟨hG5, Or.inr ⟨⟨1, v, ⟨#[]⟩, []⟩, ⟨1, v, ⟨#[]⟩, none, 0, 0⟩, q1 + 1, by omega, Nat.zero_le _, Nat.zero_le _, HDd, rfl, hO5, hR5⟩⟩
    rw [results_cellR rfl]
    go_simp
  have z1 : (o == 1) = false := by simpa using e1
  by_cases e9 : o = 9
  · subst e9
    have hka := Lib.hid (needC 32 32 rfl b s q0 w2 HRd2.out hs)
    obtain ⟨c0, c1, c2, c3⟩ := HC2.out
    obtain ⟨f1, f2, f3⟩ := HF2.out
    go_wp2_with fail
    clear c0 c1 c2 c3 f1 f2 f3
    refine hka.out.mono ?_
    rintro e wna ⟨hgn, ⟨hnn, he⟩ | ⟨hnn, rfl, hrn⟩⟩
    · unfold Fell at he
      subst he
      have HGf := Lib.hid (grown_trans HG2.out hgn)
      have HNf := Lib.hid hnn
      clear hgn hnn
      go_wp2
      exact ⟨rfl, HGf.out, Or.inl ⟨Lib.hid (rdPl_fellA HOP.out (argA_none1 (by decide) (by rw [← HOQ.out]; exact HNf.out))), rfl⟩⟩
    have HNa := Lib.hid hnn
    have HGa := Lib.hid (grown_trans HG2.out hgn)
    have HXa := Lib.hid ((grown_blockR hgn (by omega) hgb).trans HX2.out)
    have HCa := Lib.hid (HC2.out.kept hgn (by omega) hg2b)
    have HFa := Lib.hid (HF2.out.kept hgn (by omega) hg2b)
    have HBa := Lib.hid (own_below HB2.out hb hgn)
    have hza : g2 < wna.heap.size := Nat.lt_of_lt_of_le hz2 hgn.size
    have HRda := Lib.hid hrn
    clear hgn hnn hrn hka
    clear HG2 HX2 HC2 HF2 HB2 HRd2
    have hkb := Lib.hid (M.out _ _ HRda.out HBa.out)
    obtain ⟨c0, c1, c2, c3⟩ := HCa.out
    obtain ⟨f1, f2, f3⟩ := HFa.out
    go_wp2_with fail
    clear c0 c1 c2 c3 f1 f2 f3
    refine hkb.out.mono ?_
    rintro e wb ⟨hgn, ⟨hnn, he⟩ | ⟨v, q1, hq1, hnn, rfl, hrn⟩⟩
    · unfold Fell at he
      subst he
      have HGf := Lib.hid (grown_trans HGa.out hgn)
      have HNf := Lib.hid hnn
      clear hgn hnn
      go_wp2
      exact ⟨rfl, HGf.out, Or.inl ⟨Lib.hid (rdPl_fellA HOP.out (argA_none2 (by decide) (by rw [← HOQ.out]; exact HNa.out) HNf.out.out)), rfl⟩⟩
    have HV : Hid (rdNum (restB s (q0 + 1)) = some (v, restB s q1)) := hnn
    have HGb := Lib.hid (grown_trans HGa.out hgn)
    have HXb := Lib.hid ((grown_blockR hgn (by omega) hgb).trans HXa.out)
    have HCb := Lib.hid (HCa.out.kept hgn (by omega) hg2b)
    have HFb := Lib.hid (HFa.out.kept hgn (by omega) hg2b)
    have HBb := Lib.hid (own_below HBa.out hb hgn)
    have hzb : g2 < wb.heap.size := Nat.lt_of_lt_of_le hza hgn.size
    have HRdb := Lib.hid hrn
    clear hgn hnn hrn hkb
    clear HGa HXa HCa HFa HBa HRda
    have hs1 := grown_set wb ⟨g2, 1, none⟩ (.int .i64 v)
    have HGc := Lib.hid (grown_own HGb.out hs1 (by show w.heap.size ≤ g2; omega))
    have HXc := Lib.hid ((grown_blockR (b := g2) hs1 (by omega) (by omega)).trans HXb.out)
    have HCc := Lib.hid (HCb.out.set1 v)
    have HFc : Hid (Open4 (wb.setCell ⟨g2, 1, none⟩ (.int .i64 v)) g2) := by
      have k := HFb.out
      exact ⟨by simpa using k.1, by simpa using k.2.1, by simpa using k.2.2⟩
    have HBc := Lib.hid (HBb.out.setCell (p := ⟨g2, 1, none⟩) (show w0.heap.size ≤ g2 by omega) (.int .i64 v))
    have HRdc := Lib.hid (HRdb.out.grown hs1 hg2b)
    have hzc : g2 < (wb.setCell ⟨g2, 1, none⟩ (.int .i64 v)).heap.size := by simpa [World.setCell] using hzb
    obtain ⟨c0, c1, c2, c3⟩ := HCb.out
    obtain ⟨f1, f2, f3⟩ := HFb.out
    go_upto_region 14 with fail
    clear c0 c1 c2 c3 f1 f2 f3
    clear HGb HXb HCb HFb HBb HRdb
    clear hs1
    generalize wb.setCell ⟨g2, 1, none⟩ (.int .i64 v) = wc at *
    have hke := Lib.hid (needC 10 10 rfl b s q1 wc HRdc.out hs)
    obtain ⟨c0, c1, c2, c3⟩ := HCc.out
    obtain ⟨f1, f2, f3⟩ := HFc.out
    go_wp2_with fail
    clear c0 c1 c2 c3 f1 f2 f3
    refine hke.out.mono ?_
    rintro e wne ⟨hgn, ⟨hnn, he⟩ | ⟨hnn, rfl, hrn⟩⟩
    · unfold Fell at he
      subst he
      have HGf := Lib.hid (grown_trans HGc.out hgn)
      have HNf := Lib.hid hnn
      clear hgn hnn
      go_wp2
      exact ⟨rfl, HGf.out, Or.inl ⟨Lib.hid (rdPl_fellB HOP.out (argA_good (by decide) (by rw [← HOQ.out]; exact HNa.out) HV.out) HNf.out), rfl⟩⟩
    have HNe := Lib.hid hnn
    have HGe := Lib.hid (grown_trans HGc.out hgn)
    have HXe := Lib.hid ((grown_blockR hgn (by omega) hgb).trans HXc.out)
    have HCe := Lib.hid (HCc.out.kept hgn (by omega) hg2b)
    have HFe := Lib.hid (HFc.out.kept hgn (by omega) hg2b)
    have HBe := Lib.hid (own_below HBc.out hb hgn)
    have hze : g2 < wne.heap.size := Nat.lt_of_lt_of_le hzc hgn.size
    have HRde := Lib.hid hrn
    clear hgn hnn hrn hke
    clear HGc HXc HCc HFc HBc HRdc
    obtain ⟨c0, c1, c2, c3⟩ := HCe.out
    obtain ⟨f1, f2, f3⟩ := HFe.out
    go_wp2_with (first
      | (refine wpList_store_row rfl 48 _ _ rfl g #[Value.int .i64 9, .int .i64 v, .string ⟨#[]⟩, .slice none 0 0] rfl rfl 48 #[.int .i64 0, .int .i64 0, .string ⟨#[]⟩, .slice none 0 0] HXe.out insSize rfl (insOne _ _ _ _ _ _) ?_)
      | fail)
    have hB5 : wne.grownBy (wne.setRow g #[Value.int .i64 9, .int .i64 v, .string ⟨#[]⟩, .slice none 0 0]) (some g) := grown_setRowT _ _ _
    have R5 := setRow_heap _ g _ #[Value.int .i64 9, .int .i64 v, .string ⟨#[]⟩, .slice none 0 0] _ _ HXe.out
    have y : Cell4 (wne.setRow g #[Value.int .i64 9, .int .i64 v, .string ⟨#[]⟩, .slice none 0 0]) g 9 v ⟨#[]⟩ (.slice none 0 0) := by
      refine ⟨?_, ?_, ?_, ?_⟩ <;> (rw [Lib.cell_of_heap R5]; rfl)
    have hR5 : RdS (wne.setRow g #[Value.int .i64 9, .int .i64 v, .string ⟨#[]⟩, .slice none 0 0]) b s (q1 + 1) := HRde.out.grown hB5 hgb
    have hG5 : w.grownBy (wne.setRow g #[Value.int .i64 9, .int .i64 v, .string ⟨#[]⟩, .slice none 0 0]) (some b) := grown_own HGe.out hB5 (by omega)
    have hO5 : PlO w.heap.size (wne.setRow g #[Value.int .i64 9, .int .i64 v, .string ⟨#[]⟩, .slice none 0 0]) ⟨9, v, ⟨#[]⟩, []⟩ ⟨9, v, ⟨#[]⟩, none, 0, 0⟩ := ⟨rfl, rfl, rfl, rfl, World.ownsRow_nil _ _ _ _⟩
    have HDd : Hid (rdPl (restB s p) = some (⟨9, v, ⟨#[]⟩, []⟩, restB s (q1 + 1))) := Lib.hid (rdPl_good HOP.out (argA_good (by decide) (by rw [← HOQ.out]; exact HNa.out) HV.out) HNe.out)
    clear c0 c1 c2 c3 f1 f2 f3
    clear R5
    generalize wne.setRow g #[Value.int .i64 9, .int .i64 v, .string ⟨#[]⟩, .slice none 0 0] = w5 at *
    obtain ⟨y0, y1, y2, y3⟩ := y
    (try simp only [Exit.inBlock, Exit.then])
    refine bodyPost_ret (v := .agg #[.int .i64 9, .int .i64 v, .string ⟨#[]⟩, .slice none 0 0]) ?_ rfl ⟨hG5, Or.inr ⟨⟨9, v, ⟨#[]⟩, []⟩, ⟨9, v, ⟨#[]⟩, none, 0, 0⟩, q1 + 1, by omega, Nat.zero_le _, Nat.zero_le _, HDd, rfl, hO5, hR5⟩⟩
    rw [results_cellR rfl]
    go_simp
  have z9 : (o == 9) = false := by simpa using e9
  by_cases e11 : o = 11
  · subst e11
    have hka := Lib.hid (needC 32 32 rfl b s q0 w2 HRd2.out hs)
    obtain ⟨c0, c1, c2, c3⟩ := HC2.out
    obtain ⟨f1, f2, f3⟩ := HF2.out
    go_wp2_with fail
    clear c0 c1 c2 c3 f1 f2 f3
    refine hka.out.mono ?_
    rintro e wna ⟨hgn, ⟨hnn, he⟩ | ⟨hnn, rfl, hrn⟩⟩
    · unfold Fell at he
      subst he
      have HGf := Lib.hid (grown_trans HG2.out hgn)
      have HNf := Lib.hid hnn
      clear hgn hnn
      go_wp2
      exact ⟨rfl, HGf.out, Or.inl ⟨Lib.hid (rdPl_fellA HOP.out (argA_none1 (by decide) (by rw [← HOQ.out]; exact HNf.out))), rfl⟩⟩
    have HNa := Lib.hid hnn
    have HGa := Lib.hid (grown_trans HG2.out hgn)
    have HXa := Lib.hid ((grown_blockR hgn (by omega) hgb).trans HX2.out)
    have HCa := Lib.hid (HC2.out.kept hgn (by omega) hg2b)
    have HFa := Lib.hid (HF2.out.kept hgn (by omega) hg2b)
    have HBa := Lib.hid (own_below HB2.out hb hgn)
    have hza : g2 < wna.heap.size := Nat.lt_of_lt_of_le hz2 hgn.size
    have HRda := Lib.hid hrn
    clear hgn hnn hrn hka
    clear HG2 HX2 HC2 HF2 HB2 HRd2
    have hkb := Lib.hid (M.out _ _ HRda.out HBa.out)
    obtain ⟨c0, c1, c2, c3⟩ := HCa.out
    obtain ⟨f1, f2, f3⟩ := HFa.out
    go_wp2_with fail
    clear c0 c1 c2 c3 f1 f2 f3
    refine hkb.out.mono ?_
    rintro e wb ⟨hgn, ⟨hnn, he⟩ | ⟨v, q1, hq1, hnn, rfl, hrn⟩⟩
    · unfold Fell at he
      subst he
      have HGf := Lib.hid (grown_trans HGa.out hgn)
      have HNf := Lib.hid hnn
      clear hgn hnn
      go_wp2
      exact ⟨rfl, HGf.out, Or.inl ⟨Lib.hid (rdPl_fellA HOP.out (argA_none2 (by decide) (by rw [← HOQ.out]; exact HNa.out) HNf.out.out)), rfl⟩⟩
    have HV : Hid (rdNum (restB s (q0 + 1)) = some (v, restB s q1)) := hnn
    have HGb := Lib.hid (grown_trans HGa.out hgn)
    have HXb := Lib.hid ((grown_blockR hgn (by omega) hgb).trans HXa.out)
    have HCb := Lib.hid (HCa.out.kept hgn (by omega) hg2b)
    have HFb := Lib.hid (HFa.out.kept hgn (by omega) hg2b)
    have HBb := Lib.hid (own_below HBa.out hb hgn)
    have hzb : g2 < wb.heap.size := Nat.lt_of_lt_of_le hza hgn.size
    have HRdb := Lib.hid hrn
    clear hgn hnn hrn hkb
    clear HGa HXa HCa HFa HBa HRda
    have hs1 := grown_set wb ⟨g2, 1, none⟩ (.int .i64 v)
    have HGc := Lib.hid (grown_own HGb.out hs1 (by show w.heap.size ≤ g2; omega))
    have HXc := Lib.hid ((grown_blockR (b := g2) hs1 (by omega) (by omega)).trans HXb.out)
    have HCc := Lib.hid (HCb.out.set1 v)
    have HFc : Hid (Open4 (wb.setCell ⟨g2, 1, none⟩ (.int .i64 v)) g2) := by
      have k := HFb.out
      exact ⟨by simpa using k.1, by simpa using k.2.1, by simpa using k.2.2⟩
    have HBc := Lib.hid (HBb.out.setCell (p := ⟨g2, 1, none⟩) (show w0.heap.size ≤ g2 by omega) (.int .i64 v))
    have HRdc := Lib.hid (HRdb.out.grown hs1 hg2b)
    have hzc : g2 < (wb.setCell ⟨g2, 1, none⟩ (.int .i64 v)).heap.size := by simpa [World.setCell] using hzb
    obtain ⟨c0, c1, c2, c3⟩ := HCb.out
    obtain ⟨f1, f2, f3⟩ := HFb.out
    go_upto_region 14 with fail
    clear c0 c1 c2 c3 f1 f2 f3
    clear HGb HXb HCb HFb HBb HRdb
    clear hs1
    generalize wb.setCell ⟨g2, 1, none⟩ (.int .i64 v) = wc at *
    have hke := Lib.hid (needC 10 10 rfl b s q1 wc HRdc.out hs)
    obtain ⟨c0, c1, c2, c3⟩ := HCc.out
    obtain ⟨f1, f2, f3⟩ := HFc.out
    go_wp2_with fail
    clear c0 c1 c2 c3 f1 f2 f3
    refine hke.out.mono ?_
    rintro e wne ⟨hgn, ⟨hnn, he⟩ | ⟨hnn, rfl, hrn⟩⟩
    · unfold Fell at he
      subst he
      have HGf := Lib.hid (grown_trans HGc.out hgn)
      have HNf := Lib.hid hnn
      clear hgn hnn
      go_wp2
      exact ⟨rfl, HGf.out, Or.inl ⟨Lib.hid (rdPl_fellB HOP.out (argA_good (by decide) (by rw [← HOQ.out]; exact HNa.out) HV.out) HNf.out), rfl⟩⟩
    have HNe := Lib.hid hnn
    have HGe := Lib.hid (grown_trans HGc.out hgn)
    have HXe := Lib.hid ((grown_blockR hgn (by omega) hgb).trans HXc.out)
    have HCe := Lib.hid (HCc.out.kept hgn (by omega) hg2b)
    have HFe := Lib.hid (HFc.out.kept hgn (by omega) hg2b)
    have HBe := Lib.hid (own_below HBc.out hb hgn)
    have hze : g2 < wne.heap.size := Nat.lt_of_lt_of_le hzc hgn.size
    have HRde := Lib.hid hrn
    clear hgn hnn hrn hke
    clear HGc HXc HCc HFc HBc HRdc
    obtain ⟨c0, c1, c2, c3⟩ := HCe.out
    obtain ⟨f1, f2, f3⟩ := HFe.out
    go_wp2_with (first
      | (refine wpList_store_row rfl 48 _ _ rfl g #[Value.int .i64 11, .int .i64 v, .string ⟨#[]⟩, .slice none 0 0] rfl rfl 48 #[.int .i64 0, .int .i64 0, .string ⟨#[]⟩, .slice none 0 0] HXe.out insSize rfl (insOne _ _ _ _ _ _) ?_)
      | fail)
    have hB5 : wne.grownBy (wne.setRow g #[Value.int .i64 11, .int .i64 v, .string ⟨#[]⟩, .slice none 0 0]) (some g) := grown_setRowT _ _ _
    have R5 := setRow_heap _ g _ #[Value.int .i64 11, .int .i64 v, .string ⟨#[]⟩, .slice none 0 0] _ _ HXe.out
    have y : Cell4 (wne.setRow g #[Value.int .i64 11, .int .i64 v, .string ⟨#[]⟩, .slice none 0 0]) g 11 v ⟨#[]⟩ (.slice none 0 0) := by
      refine ⟨?_, ?_, ?_, ?_⟩ <;> (rw [Lib.cell_of_heap R5]; rfl)
    have hR5 : RdS (wne.setRow g #[Value.int .i64 11, .int .i64 v, .string ⟨#[]⟩, .slice none 0 0]) b s (q1 + 1) := HRde.out.grown hB5 hgb
    have hG5 : w.grownBy (wne.setRow g #[Value.int .i64 11, .int .i64 v, .string ⟨#[]⟩, .slice none 0 0]) (some b) := grown_own HGe.out hB5 (by omega)
    have hO5 : PlO w.heap.size (wne.setRow g #[Value.int .i64 11, .int .i64 v, .string ⟨#[]⟩, .slice none 0 0]) ⟨11, v, ⟨#[]⟩, []⟩ ⟨11, v, ⟨#[]⟩, none, 0, 0⟩ := ⟨rfl, rfl, rfl, rfl, World.ownsRow_nil _ _ _ _⟩
    have HDd : Hid (rdPl (restB s p) = some (⟨11, v, ⟨#[]⟩, []⟩, restB s (q1 + 1))) := Lib.hid (rdPl_good HOP.out (argA_good (by decide) (by rw [← HOQ.out]; exact HNa.out) HV.out) HNe.out)
    clear c0 c1 c2 c3 f1 f2 f3
    clear R5
    generalize wne.setRow g #[Value.int .i64 11, .int .i64 v, .string ⟨#[]⟩, .slice none 0 0] = w5 at *
    obtain ⟨y0, y1, y2, y3⟩ := y
    (try simp only [Exit.inBlock, Exit.then])
    refine bodyPost_ret (v := .agg #[.int .i64 11, .int .i64 v, .string ⟨#[]⟩, .slice none 0 0]) ?_ rfl ⟨hG5, Or.inr ⟨⟨11, v, ⟨#[]⟩, []⟩, ⟨11, v, ⟨#[]⟩, none, 0, 0⟩, q1 + 1, by omega, Nat.zero_le _, Nat.zero_le _, HDd, rfl, hO5, hR5⟩⟩
    rw [results_cellR rfl]
    go_simp
  have z11 : (o == 11) = false := by simpa using e11
  by_cases e2 : o = 2
  · subst e2
    have hka := Lib.hid (needC 32 32 rfl b s q0 w2 HRd2.out hs)
    obtain ⟨c0, c1, c2, c3⟩ := HC2.out
    obtain ⟨f1, f2, f3⟩ := HF2.out
    go_wp2_with fail
    clear c0 c1 c2 c3 f1 f2 f3
    refine hka.out.mono ?_
    rintro e wna ⟨hgn, ⟨hnn, he⟩ | ⟨hnn, rfl, hrn⟩⟩
    · unfold Fell at he
      subst he
      have HGf := Lib.hid (grown_trans HG2.out hgn)
      have HNf := Lib.hid hnn
      clear hgn hnn
      go_wp2
      exact ⟨rfl, HGf.out, Or.inl ⟨Lib.hid (rdPl_fellA HOP.out (argB_none (by rw [← HOQ.out]; exact HNf.out))), rfl⟩⟩
    have HNa := Lib.hid hnn
    have HGa := Lib.hid (grown_trans HG2.out hgn)
    have HXa := Lib.hid ((grown_blockR hgn (by omega) hgb).trans HX2.out)
    have HCa := Lib.hid (HC2.out.kept hgn (by omega) hg2b)
    have HFa := Lib.hid (HF2.out.kept hgn (by omega) hg2b)
    have HBa := Lib.hid (own_below HB2.out hb hgn)
    have hza : g2 < wna.heap.size := Nat.lt_of_lt_of_le hz2 hgn.size
    have HRda := Lib.hid hrn
    clear hgn hnn hrn hka
    clear HG2 HX2 HC2 HF2 HB2 HRd2
    have hkb := Lib.hid (runC letBs b s (q0 + 1) wna HRda.out hs (by decide) (by decide))
    unfold letBs at hkb
    obtain ⟨c0, c1, c2, c3⟩ := HCa.out
    obtain ⟨f1, f2, f3⟩ := HFa.out
    go_wp2_with fail
    clear c0 c1 c2 c3 f1 f2 f3
    refine hkb.out.mono ?_
    rintro e wb ⟨u, q1, hq1, rfl, hul, hu, hq, hrn, hgn⟩
    have HU : Hid (u.data.toList = runOf letS (restB s (q0 + 1))) := hu
    have HQ : Hid (restB s q1 = offOf letS (restB s (q0 + 1))) := hq
    have HGb := Lib.hid (grown_trans HGa.out hgn)
    have HXb := Lib.hid ((grown_blockR hgn (by omega) hgb).trans HXa.out)
    have HCb := Lib.hid (HCa.out.kept hgn (by omega) hg2b)
    have HFb := Lib.hid (HFa.out.kept hgn (by omega) hg2b)
    have HBb := Lib.hid (own_below HBa.out hb hgn)
    have hzb : g2 < wb.heap.size := Nat.lt_of_lt_of_le hza hgn.size
    have HRdb := Lib.hid hrn
    clear hgn hu hq hrn hkb
    clear HGa HXa HCa HFa HBa HRda
    have hs1 := grown_set wb ⟨g2, 2, none⟩ (.string u)
    have HGc := Lib.hid (grown_own HGb.out hs1 (by show w.heap.size ≤ g2; omega))
    have HXc := Lib.hid ((grown_blockR (b := g2) hs1 (by omega) (by omega)).trans HXb.out)
    have HCc := Lib.hid (HCb.out.set2 u)
    have HFc : Hid (Open4 (wb.setCell ⟨g2, 2, none⟩ (.string u)) g2) := by
      have k := HFb.out
      exact ⟨by simpa using k.1, by simpa using k.2.1, by simpa using k.2.2⟩
    have HBc := Lib.hid (HBb.out.setCell (p := ⟨g2, 2, none⟩) (show w0.heap.size ≤ g2 by omega) (.string u))
    have HRdc := Lib.hid (HRdb.out.grown hs1 hg2b)
    have hzc : g2 < (wb.setCell ⟨g2, 2, none⟩ (.string u)).heap.size := by simpa [World.setCell] using hzb
    obtain ⟨c0, c1, c2, c3⟩ := HCb.out
    obtain ⟨f1, f2, f3⟩ := HFb.out
    go_upto_region 14 with fail
    clear c0 c1 c2 c3 f1 f2 f3
    clear HGb HXb HCb HFb HBb HRdb
    clear hs1
    generalize wb.setCell ⟨g2, 2, none⟩ (.string u) = wc at *
    have hke := Lib.hid (needC 10 10 rfl b s q1 wc HRdc.out hs)
    obtain ⟨c0, c1, c2, c3⟩ := HCc.out
    obtain ⟨f1, f2, f3⟩ := HFc.out
    go_wp2_with fail
    clear c0 c1 c2 c3 f1 f2 f3
    refine hke.out.mono ?_
    rintro e wne ⟨hgn, ⟨hnn, he⟩ | ⟨hnn, rfl, hrn⟩⟩
    · unfold Fell at he
      subst he
      have HGf := Lib.hid (grown_trans HGc.out hgn)
      have HNf := Lib.hid hnn
      clear hgn hnn
      go_wp2
      exact ⟨rfl, HGf.out, Or.inl ⟨Lib.hid (rdPl_fellB HOP.out (by rw [HQ.out]; exact argB_good (by rw [← HOQ.out]; exact HNa.out) HU.out) HNf.out), rfl⟩⟩
    have HNe := Lib.hid hnn
    have HGe := Lib.hid (grown_trans HGc.out hgn)
    have HXe := Lib.hid ((grown_blockR hgn (by omega) hgb).trans HXc.out)
    have HCe := Lib.hid (HCc.out.kept hgn (by omega) hg2b)
    have HFe := Lib.hid (HFc.out.kept hgn (by omega) hg2b)
    have HBe := Lib.hid (own_below HBc.out hb hgn)
    have hze : g2 < wne.heap.size := Nat.lt_of_lt_of_le hzc hgn.size
    have HRde := Lib.hid hrn
    clear hgn hnn hrn hke
    clear HGc HXc HCc HFc HBc HRdc
    obtain ⟨c0, c1, c2, c3⟩ := HCe.out
    obtain ⟨f1, f2, f3⟩ := HFe.out
    go_wp2_with (first
      | (refine wpList_store_row rfl 48 _ _ rfl g #[Value.int .i64 2, .int .i64 0, .string u, .slice none 0 0] rfl rfl 48 #[.int .i64 0, .int .i64 0, .string ⟨#[]⟩, .slice none 0 0] HXe.out insSize rfl (insOne _ _ _ _ _ _) ?_)
      | fail)
    have hB5 : wne.grownBy (wne.setRow g #[Value.int .i64 2, .int .i64 0, .string u, .slice none 0 0]) (some g) := grown_setRowT _ _ _
    have R5 := setRow_heap _ g _ #[Value.int .i64 2, .int .i64 0, .string u, .slice none 0 0] _ _ HXe.out
    have y : Cell4 (wne.setRow g #[Value.int .i64 2, .int .i64 0, .string u, .slice none 0 0]) g 2 0 u (.slice none 0 0) := by
      refine ⟨?_, ?_, ?_, ?_⟩ <;> (rw [Lib.cell_of_heap R5]; rfl)
    have hR5 : RdS (wne.setRow g #[Value.int .i64 2, .int .i64 0, .string u, .slice none 0 0]) b s (q1 + 1) := HRde.out.grown hB5 hgb
    have hG5 : w.grownBy (wne.setRow g #[Value.int .i64 2, .int .i64 0, .string u, .slice none 0 0]) (some b) := grown_own HGe.out hB5 (by omega)
    have hO5 : PlO w.heap.size (wne.setRow g #[Value.int .i64 2, .int .i64 0, .string u, .slice none 0 0]) ⟨2, 0, u, []⟩ ⟨2, 0, u, none, 0, 0⟩ := ⟨rfl, rfl, rfl, rfl, World.ownsRow_nil _ _ _ _⟩
    have HDd : Hid (rdPl (restB s p) = some (⟨2, 0, u, []⟩, restB s (q1 + 1))) := Lib.hid (rdPl_good HOP.out (by rw [HQ.out]; exact argB_good (by rw [← HOQ.out]; exact HNa.out) HU.out) HNe.out)
    clear c0 c1 c2 c3 f1 f2 f3
    clear R5
    generalize wne.setRow g #[Value.int .i64 2, .int .i64 0, .string u, .slice none 0 0] = w5 at *
    obtain ⟨y0, y1, y2, y3⟩ := y
    (try simp only [Exit.inBlock, Exit.then])
    refine bodyPost_ret (v := .agg #[.int .i64 2, .int .i64 0, .string u, .slice none 0 0]) ?_ rfl ⟨hG5, Or.inr ⟨⟨2, 0, u, []⟩, ⟨2, 0, u, none, 0, 0⟩, q1 + 1, by omega, hul, Nat.zero_le _, HDd, rfl, hO5, hR5⟩⟩
    rw [results_cellR rfl]
    go_simp
  have z2 : (o == 2) = false := by simpa using e2
  by_cases e10 : o = 10
  · subst e10
    have hka := Lib.hid (needC 32 32 rfl b s q0 w2 HRd2.out hs)
    obtain ⟨c0, c1, c2, c3⟩ := HC2.out
    obtain ⟨f1, f2, f3⟩ := HF2.out
    go_wp2_with fail
    clear c0 c1 c2 c3 f1 f2 f3
    refine hka.out.mono ?_
    rintro e wna ⟨hgn, ⟨hnn, he⟩ | ⟨hnn, rfl, hrn⟩⟩
    · unfold Fell at he
      subst he
      have HGf := Lib.hid (grown_trans HG2.out hgn)
      have HNf := Lib.hid hnn
      clear hgn hnn
      go_wp2
      exact ⟨rfl, HGf.out, Or.inl ⟨Lib.hid (rdPl_fellA HOP.out (argC_none1 (by rw [← HOQ.out]; exact HNf.out))), rfl⟩⟩
    have HNa := Lib.hid hnn
    have HGa := Lib.hid (grown_trans HG2.out hgn)
    have HXa := Lib.hid ((grown_blockR hgn (by omega) hgb).trans HX2.out)
    have HCa := Lib.hid (HC2.out.kept hgn (by omega) hg2b)
    have HFa := Lib.hid (HF2.out.kept hgn (by omega) hg2b)
    have HBa := Lib.hid (own_below HB2.out hb hgn)
    have hza : g2 < wna.heap.size := Nat.lt_of_lt_of_le hz2 hgn.size
    have HRda := Lib.hid hrn
    clear hgn hnn hrn hka
    clear HG2 HX2 HC2 HF2 HB2 HRd2
    have hkb := Lib.hid (MM.out _ _ HRda.out HBa.out)
    obtain ⟨c0, c1, c2, c3⟩ := HCa.out
    obtain ⟨f1, f2, f3⟩ := HFa.out
    go_wp2_with fail
    clear c0 c1 c2 c3 f1 f2 f3
    refine hkb.out.mono ?_
    rintro e wb ⟨hgn, ⟨hnn, he⟩ | ⟨l, q1, gm, cap, hq1, -, hl1, hl2, hl3, hnn, rfl, hown, hgmb, hrn⟩⟩
    · unfold Fell at he
      subst he
      have HGf := Lib.hid (grown_trans HGa.out hgn)
      have HNf := Lib.hid hnn
      clear hgn hnn
      go_wp2
      exact ⟨rfl, HGf.out, Or.inl ⟨Lib.hid (rdPl_fellA HOP.out (argC_none2 (by rw [← HOQ.out]; exact HNa.out) HNf.out.out)), rfl⟩⟩
    have HV : Hid (rdList 32 rdMark (restB s (q0 + 1)) = some (l, restB s q1)) := hnn
    have hgm := (hown.lt gm rfl).1
    have hsza : g2 < wna.heap.size := hza
    have HGb := Lib.hid (grown_trans HGa.out hgn)
    have HXb := Lib.hid ((grown_blockR hgn (by omega) hgb).trans HXa.out)
    have HCb := Lib.hid (HCa.out.kept hgn (by omega) hg2b)
    have HFb := Lib.hid (HFa.out.kept hgn (by omega) hg2b)
    have HBb := Lib.hid (own_below HBa.out hb hgn)
    have hzb : g2 < wb.heap.size := Nat.lt_of_lt_of_le hza hgn.size
    have HRdb := Lib.hid hrn
    have HO := Lib.hid (owns_mono hown (show w.heap.size ≤ wna.heap.size by omega))
    clear hgn hnn hrn hkb hown
    clear HGa HXa HCa HFa HBa HRda
    have hs1 := grown_set wb ⟨g2, 3, none⟩ (.slice (some ⟨gm, 0, none⟩) l.length cap)
    have HGc := Lib.hid (grown_own HGb.out hs1 (by show w.heap.size ≤ g2; omega))
    have HXc := Lib.hid ((grown_blockR (b := g2) hs1 (by omega) (by omega)).trans HXb.out)
    have HCc := Lib.hid (HCb.out.set3 (.slice (some ⟨gm, 0, none⟩) l.length cap))
    have HFc : Hid (Open4 (wb.setCell ⟨g2, 3, none⟩ (.slice (some ⟨gm, 0, none⟩) l.length cap)) g2) := by
      have k := HFb.out
      exact ⟨by simpa using k.1, by simpa using k.2.1, by simpa using k.2.2⟩
    have HBc := Lib.hid (HBb.out.setCell (p := ⟨g2, 3, none⟩) (show w0.heap.size ≤ g2 by omega) (.slice (some ⟨gm, 0, none⟩) l.length cap))
    have HRdc := Lib.hid (HRdb.out.grown hs1 hg2b)
    have hzc : g2 < (wb.setCell ⟨g2, 3, none⟩ (.slice (some ⟨gm, 0, none⟩) l.length cap)).heap.size := by simpa [World.setCell] using hzb
    have hgmg : gm ≠ g2 := by omega
    have HOc := Lib.hid (HO.out.kept hs1 (Or.inr (by simp [Value.ownBlock]; exact hgmg)))
    obtain ⟨c0, c1, c2, c3⟩ := HCb.out
    obtain ⟨f1, f2, f3⟩ := HFb.out
    go_upto_region 14 with fail
    clear c0 c1 c2 c3 f1 f2 f3
    clear HGb HXb HCb HFb HBb HRdb
    clear hs1 HO
    generalize wb.setCell ⟨g2, 3, none⟩ (.slice (some ⟨gm, 0, none⟩) l.length cap) = wc at *
    have hke := Lib.hid (needC 10 10 rfl b s q1 wc HRdc.out hs)
    obtain ⟨c0, c1, c2, c3⟩ := HCc.out
    obtain ⟨f1, f2, f3⟩ := HFc.out
    go_wp2_with fail
    clear c0 c1 c2 c3 f1 f2 f3
    refine hke.out.mono ?_
    rintro e wne ⟨hgn, ⟨hnn, he⟩ | ⟨hnn, rfl, hrn⟩⟩
    · unfold Fell at he
      subst he
      have HGf := Lib.hid (grown_trans HGc.out hgn)
      have HNf := Lib.hid hnn
      clear hgn hnn
      go_wp2
      exact ⟨rfl, HGf.out, Or.inl ⟨Lib.hid (rdPl_fellB HOP.out (argC_good (by rw [← HOQ.out]; exact HNa.out) HV.out) HNf.out), rfl⟩⟩
    have HNe := Lib.hid hnn
    have HGe := Lib.hid (grown_trans HGc.out hgn)
    have HXe := Lib.hid ((grown_blockR hgn (by omega) hgb).trans HXc.out)
    have HCe := Lib.hid (HCc.out.kept hgn (by omega) hg2b)
    have HFe := Lib.hid (HFc.out.kept hgn (by omega) hg2b)
    have HBe := Lib.hid (own_below HBc.out hb hgn)
    have hze : g2 < wne.heap.size := Nat.lt_of_lt_of_le hzc hgn.size
    have HRde := Lib.hid hrn
    have HOe := Lib.hid (HOc.out.kept hgn (Or.inr (by simp [Value.ownBlock]; exact hgmb)))
    clear hgn hnn hrn hke
    clear HGc HXc HCc HFc HBc HRdc
    obtain ⟨c0, c1, c2, c3⟩ := HCe.out
    obtain ⟨f1, f2, f3⟩ := HFe.out
    go_wp2_with (first
      | (refine wpList_store_row rfl 48 _ _ rfl g #[Value.int .i64 10, .int .i64 0, .string ⟨#[]⟩, .slice (some ⟨gm, 0, none⟩) l.length cap] rfl rfl 48 #[.int .i64 0, .int .i64 0, .string ⟨#[]⟩, .slice none 0 0] HXe.out insSize rfl (insOne _ _ _ _ _ _) ?_)
      | fail)
    have hB5 : wne.grownBy (wne.setRow g #[Value.int .i64 10, .int .i64 0, .string ⟨#[]⟩, .slice (some ⟨gm, 0, none⟩) l.length cap]) (some g) := grown_setRowT _ _ _
    have R5 := setRow_heap _ g _ #[Value.int .i64 10, .int .i64 0, .string ⟨#[]⟩, .slice (some ⟨gm, 0, none⟩) l.length cap] _ _ HXe.out
    have y : Cell4 (wne.setRow g #[Value.int .i64 10, .int .i64 0, .string ⟨#[]⟩, .slice (some ⟨gm, 0, none⟩) l.length cap]) g 10 0 ⟨#[]⟩ (.slice (some ⟨gm, 0, none⟩) l.length cap) := by
      refine ⟨?_, ?_, ?_, ?_⟩ <;> (rw [Lib.cell_of_heap R5]; rfl)
    have hR5 : RdS (wne.setRow g #[Value.int .i64 10, .int .i64 0, .string ⟨#[]⟩, .slice (some ⟨gm, 0, none⟩) l.length cap]) b s (q1 + 1) := HRde.out.grown hB5 hgb
    have hG5 : w.grownBy (wne.setRow g #[Value.int .i64 10, .int .i64 0, .string ⟨#[]⟩, .slice (some ⟨gm, 0, none⟩) l.length cap]) (some b) := grown_own HGe.out hB5 (by omega)
    have hgmx : gm ≠ g := by omega
    have hO5 : PlO w.heap.size (wne.setRow g #[Value.int .i64 10, .int .i64 0, .string ⟨#[]⟩, .slice (some ⟨gm, 0, none⟩) l.length cap]) ⟨10, 0, ⟨#[]⟩, l⟩ ⟨10, 0, ⟨#[]⟩, some ⟨gm, 0, none⟩, l.length, cap⟩ := ⟨rfl, rfl, rfl, rfl, HOe.out.kept hB5 (Or.inr (by simp [Value.ownBlock]; exact hgmx))⟩
    have HDd : Hid (rdPl (restB s p) = some (⟨10, 0, ⟨#[]⟩, l⟩, restB s (q1 + 1))) := Lib.hid (rdPl_good HOP.out (argC_good (by rw [← HOQ.out]; exact HNa.out) HV.out) HNe.out)
    clear c0 c1 c2 c3 f1 f2 f3
    clear R5
    generalize wne.setRow g #[Value.int .i64 10, .int .i64 0, .string ⟨#[]⟩, .slice (some ⟨gm, 0, none⟩) l.length cap] = w5 at *
    obtain ⟨y0, y1, y2, y3⟩ := y
    (try simp only [Exit.inBlock, Exit.then])
    refine bodyPost_ret (v := .agg #[.int .i64 10, .int .i64 0, .string ⟨#[]⟩, .slice (some ⟨gm, 0, none⟩) l.length cap]) ?_ rfl ⟨hG5, Or.inr ⟨⟨10, 0, ⟨#[]⟩, l⟩, ⟨10, 0, ⟨#[]⟩, (some ⟨gm, 0, none⟩), l.length, cap⟩, q1 + 1, by omega, Nat.zero_le _, hl2, HDd, rfl, hO5, hR5⟩⟩
    rw [results_cellR rfl]
    go_simp
  have z10 : (o == 10) = false := by simpa using e10
  have hcA : ¬ (o = 1 ∨ o = 9 ∨ o = 11) := by omega
  have hc2 := e2
  have hc3 := e10
  clear e1 e9 e11 e2 e10
  obtain ⟨c0, c1, c2, c3⟩ := HC2.out
  obtain ⟨f1, f2, f3⟩ := HF2.out
  go_upto_region 14 with fail
  clear c0 c1 c2 c3 f1 f2 f3
  have hke := Lib.hid (needC 10 10 rfl b s q0 w2 HRd2.out hs)
  obtain ⟨c0, c1, c2, c3⟩ := HC2.out
  obtain ⟨f1, f2, f3⟩ := HF2.out
  go_wp2_with fail
  clear c0 c1 c2 c3 f1 f2 f3
  refine hke.out.mono ?_
  rintro e wne ⟨hgn, ⟨hnn, he⟩ | ⟨hnn, rfl, hrn⟩⟩
  · unfold Fell at he
    subst he
    have HGf := Lib.hid (grown_trans HG2.out hgn)
    have HNf := Lib.hid hnn
    clear hgn hnn
    go_wp2
    exact ⟨rfl, HGf.out, Or.inl ⟨Lib.hid (rdPl_fellB HOP.out (by rw [HOQ.out]; exact argD hcA hc2 hc3) HNf.out), rfl⟩⟩
  have HNe := Lib.hid hnn
  have HGe := Lib.hid (grown_trans HG2.out hgn)
  have HXe := Lib.hid ((grown_blockR hgn (by omega) hgb).trans HX2.out)
  have HCe := Lib.hid (HC2.out.kept hgn (by omega) hg2b)
  have HFe := Lib.hid (HF2.out.kept hgn (by omega) hg2b)
  have HBe := Lib.hid (own_below HB2.out hb hgn)
  have hze : g2 < wne.heap.size := Nat.lt_of_lt_of_le hz2 hgn.size
  have HRde := Lib.hid hrn
  clear hgn hnn hrn hke
  clear HG2 HX2 HC2 HF2 HB2 HRd2
  obtain ⟨c0, c1, c2, c3⟩ := HCe.out
  obtain ⟨f1, f2, f3⟩ := HFe.out
  go_wp2_with (first
    | (refine wpList_store_row rfl 48 _ _ rfl g #[Value.int .i64 o, .int .i64 0, .string ⟨#[]⟩, .slice none 0 0] rfl rfl 48 #[.int .i64 0, .int .i64 0, .string ⟨#[]⟩, .slice none 0 0] HXe.out insSize rfl (insOne _ _ _ _ _ _) ?_)
    | fail)
  have hB5 : wne.grownBy (wne.setRow g #[Value.int .i64 o, .int .i64 0, .string ⟨#[]⟩, .slice none 0 0]) (some g) := grown_setRowT _ _ _
  have R5 := setRow_heap _ g _ #[Value.int .i64 o, .int .i64 0, .string ⟨#[]⟩, .slice none 0 0] _ _ HXe.out
  have y : Cell4 (wne.setRow g #[Value.int .i64 o, .int .i64 0, .string ⟨#[]⟩, .slice none 0 0]) g o 0 ⟨#[]⟩ (.slice none 0 0) := by
    refine ⟨?_, ?_, ?_, ?_⟩ <;> (rw [Lib.cell_of_heap R5]; rfl)
  have hR5 : RdS (wne.setRow g #[Value.int .i64 o, .int .i64 0, .string ⟨#[]⟩, .slice none 0 0]) b s (q0 + 1) := HRde.out.grown hB5 hgb
  have hG5 : w.grownBy (wne.setRow g #[Value.int .i64 o, .int .i64 0, .string ⟨#[]⟩, .slice none 0 0]) (some b) := grown_own HGe.out hB5 (by omega)
  have hO5 : PlO w.heap.size (wne.setRow g #[Value.int .i64 o, .int .i64 0, .string ⟨#[]⟩, .slice none 0 0]) ⟨o, 0, ⟨#[]⟩, []⟩ ⟨o, 0, ⟨#[]⟩, none, 0, 0⟩ := ⟨rfl, rfl, rfl, rfl, World.ownsRow_nil _ _ _ _⟩
  have HDd : Hid (rdPl (restB s p) = some (⟨o, 0, ⟨#[]⟩, []⟩, restB s (q0 + 1))) := Lib.hid (rdPl_good HOP.out (by rw [HOQ.out]; exact argD hcA hc2 hc3) HNe.out)
  clear c0 c1 c2 c3 f1 f2 f3
  clear R5
  generalize wne.setRow g #[Value.int .i64 o, .int .i64 0, .string ⟨#[]⟩, .slice none 0 0] = w5 at *
  obtain ⟨y0, y1, y2, y3⟩ := y
  (try simp only [Exit.inBlock, Exit.then])
  refine bodyPost_ret (v := .agg #[.int .i64 o, .int .i64 0, .string ⟨#[]⟩, .slice none 0 0]) ?_ rfl ⟨hG5, Or.inr ⟨⟨o, 0, ⟨#[]⟩, []⟩, ⟨o, 0, ⟨#[]⟩, none, 0, 0⟩, q0 + 1, by omega, Nat.zero_le _, Nat.zero_le _, HDd, rfl, hO5, hR5⟩⟩
  rw [results_cellR rfl]
  go_simp
end Go.Proofs.YtjhgmmcglonokaaGreatDoor
