/-
  Lists of texts that are marked, and held against their marks (beside the marks of rules).
-/
import Derived.Test.YtgoaajnppadmjaaGreatDoorMarkTx
import Derived.Test.YtgoaajnppadmjaaGreatDoorStrs
import Derived.Test.YtgoaajnppadmjaaGreatDoorMarksLaw
import Derived.OwnWalk
import Derived.Deep.AppendLies
namespace Go.Proofs.YtgoaajnppadmjaaGreatDoor
open Go.RowKit
set_option linter.unusedVariables false

/-- A list of texts of its own: its cells can be written. -/
def StrsW (B : Nat) (w : World) (a : Option Addr) (len : Nat) : Prop :=
  len = 0 ∨ ∃ g, a = some ⟨g, 0, none⟩ ∧ B ≤ g ∧ g < w.heap.size ∧ ∀ i, i < len → (∃ u, w.cell? ⟨g, i, none⟩ = some (.string u)) ∧ w.frozen? ⟨g, i, none⟩ = false
def Marked (w : World) (g len k0 : Nat) : Prop := ∀ i, i < len → w.cell? ⟨g, i, none⟩ = some (.string (mkS (k0 + i)))
def MarkSt (B : Nat) (a : Option Addr) (len k0 : Nat) (w : World) (e : Ending) (w' : World) : Prop :=
  e = .returned (.int .i64 ((k0 : Int) + len)) ∧ (len = 0 ∧ w' = w ∨ ∃ g, a = some ⟨g, 0, none⟩ ∧ B ≤ g ∧ g < w.heap.size ∧ w.grownBy w' (some g) ∧ Marked w' g len k0)
theorem below_gr {w w' : World} (h : Below w.heap.size w w') (row : Option Nat) : w.grownBy w' row := ⟨h.os, h.tape, h.output, h.size, fun k hk _ => h.block k hk⟩

set_option maxHeartbeats 2000000 in
theorem markStrs (B : Nat) (a : Option Addr) (len cap k0 : Nat) (w : World) (h : StrsW B w a len) (hl : len ≤ 1048576) (h0 : 1 ≤ k0) (h1 : k0 ≤ 1048576) :
    Calls Tryz.prog 19 #[.slice a len cap, .int .i64 k0] w (MarkSt B a len k0 w) := by
  rcases h with h | ⟨g, rfl, hB, hg, hc⟩
  · have hle : len ≤ 0 := by omega
    have hpost : MarkSt B a len k0 w (.returned (.int .i64 k0)) w := ⟨by rw [h]; simp, Or.inl ⟨h, rfl⟩⟩
    have HP := Lib.hid hpost
    clear h hpost
    go_enter Tryz.func19, Tryz.ntmps19
    go_wp2_with fail
    go_loopw [5, 1] (fun i v wr => i = .int .i64 0 ∧ v = .int .i64 k0 ∧ wr = w) (fun i _ _ => 0)
    case atStart => exact ⟨rfl, rfl, rfl⟩
    case round =>
      obtain ⟨rfl, rfl, rfl⟩ := hrel
      go_wp2
      go_ret
      exact HP.out
  · have Hc := Lib.hid hc
    clear hc
    go_enter Tryz.func19, Tryz.ntmps19
    go_wp2_with fail
    go_loopw [5, 1] (fun i v wr => ∃ k : Nat, k ≤ len ∧ i = .int .i64 k ∧ v = .int .i64 ((k0 + k : Nat) : Int) ∧ w.grownBy wr (some g) ∧ g < wr.heap.size ∧ Hid (∀ i, i < len → (∃ u, wr.cell? ⟨g, i, none⟩ = some (.string u)) ∧ wr.frozen? ⟨g, i, none⟩ = false) ∧ Hid (Marked wr g k k0)) (fun i _ _ => len - (intOf i).toNat)
    case atStart => exact ⟨0, Nat.zero_le _, rfl, rfl, grownN w 0 _, hg, Hc.out, fun i hi => by omega⟩
    case round =>
      obtain ⟨k, hk, rfl, rfl, hgr, hgs, hf, hm⟩ := hrel
      rcases Nat.lt_or_ge k len with hlt | hge
      · go_wp2_with fail
        refine (markTextS (k0 + k) _ (by omega) (by omega)).mono ?_
        rintro e w2 ⟨rfl, hb2⟩
        obtain ⟨⟨u, c1⟩, f1⟩ := hf.out k hlt
        have c2 : w2.cell? ⟨g, k, none⟩ = some (.string u) := (hb2.cell (p := ⟨g, k, none⟩) hgs).trans c1
        have hcell : ∀ i, w2.cell? ⟨g, i, none⟩ = wr.cell? ⟨g, i, none⟩ := fun i => hb2.cell (p := ⟨g, i, none⟩) hgs
        have hfroz : ∀ i, w2.frozen? ⟨g, i, none⟩ = wr.frozen? ⟨g, i, none⟩ := fun i => World.frozen?_of_block (a := ⟨g, i, none⟩) (hb2.block g hgs)
        have f2 : w2.frozen? ⟨g, k, none⟩ = false := (hfroz k).trans f1
        have Hcell := Lib.hid hcell
        have Hfroz := Lib.hid hfroz
        clear hcell hfroz c1 f1
        go_wp2
        go_roundw
        case rel =>
          refine ⟨k + 1, by omega, by go_num, by go_num, grown_trans hgr (grown_trans (below_gr hb2 _) (grown_set w2 ⟨g, k, none⟩ _)), by have := hb2.size; simp [go_sem]; omega, fun i hi => ?_, fun i hi => ?_⟩
          · obtain ⟨⟨u', c'⟩, f'⟩ := hf.out i hi
            rw [← Hcell.out] at c'
            rw [← Hfroz.out] at f'
            refine ⟨?_, by simpa [go_sem] using f'⟩
            by_cases e : i = k
            · subst e; exact ⟨mkS (k0 + i), by simp [go_sem, c2]⟩
            · exact ⟨u', by simp [go_sem, c']; try omega⟩
          · by_cases e : i = k
            · subst e; simp [go_sem, c2]
            · have := hm.out i (by omega)
              rw [← Hcell.out] at this
              simp [go_sem, this]; try omega
        case measure => simp [intOf]; omega
      · obtain rfl : k = len := by omega
        go_wp2
        go_ret
        exact ⟨by congr 2, Or.inr ⟨g, rfl, hB, hg, hgr, hm.out⟩⟩

set_option maxHeartbeats 2000000 in
theorem heldStrs (a : Option Addr) (len cap k0 : Nat) (w : World) (h : len = 0 ∨ ∃ g, a = some ⟨g, 0, none⟩ ∧ g < w.heap.size ∧ Marked w g len k0) (hl : len ≤ 1048576) (h0 : 1 ≤ k0) (h1 : k0 ≤ 1048576) :
    Calls Tryz.prog 20 #[.slice a len cap, .int .i64 k0] w fun e w' => e = .returned (.int .i64 ((k0 : Int) + len)) ∧ Below w.heap.size w w' := by
  go_enter Tryz.func20, Tryz.ntmps20
  go_wp2_with fail
  go_loopw [5, 1] (fun i v wr => ∃ k : Nat, k ≤ len ∧ i = .int .i64 k ∧ v = .int .i64 ((k0 + k : Nat) : Int) ∧ Below w.heap.size w wr) (fun i _ _ => len - (intOf i).toNat)
  case atStart => exact ⟨0, Nat.zero_le _, rfl, rfl, Below.refl _ _⟩
  case round =>
    obtain ⟨k, hk, rfl, rfl, hb⟩ := hrel
    rcases Nat.lt_or_ge k len with hlt | hge
    · rcases h with hc | ⟨g, rfl, hg, hm⟩
      · omega
      have c1 : wr.cell? ⟨g, k, none⟩ = some (.string (mkS (k0 + k))) := (hb.cell (p := ⟨g, k, none⟩) hg).trans (hm k hlt)
      have hgr : g < wr.heap.size := Nat.lt_of_lt_of_le hg hb.size
      have k1 : (k : Int) < len := by omega
      have k0' : (0 : Int) ≤ k := by omega
      have Hm := Lib.hid hm
      clear hm
      generalize hS : mkS (k0 + k) = s at *
      have HS := Lib.hid hS
      clear hS
      go_wp2_with fail
      go_region_with (go_at_call 55; refine (markTextS (k0 + k) _ ?_ ?_).mono ?_; omega; omega; rintro e w2 ⟨rfl, hb2⟩; rw [HS.out]; have c2 := hb2.cell (p := ⟨g, k, none⟩) hgr)
      all_goals
        go_wp2
        go_roundw
        case rel => exact ⟨k + 1, by omega, by go_num, by go_num, hb.trans ((bd hb2).mono hb.size)⟩
        case measure => simp [intOf]; omega
    · obtain rfl : k = len := by omega
      go_wp2
      go_ret
      exact ⟨by congr 2, hb⟩
theorem strsW_own {w : World} {B e : Nat} {a : Option Addr} {len cap : Nat} {ss : List ByteArray} (h : w.ownsRow B e 1 (.slice a len cap) len (ss.map Value.string)) (hl : ss.length = len) : StrsW B w a len := by
  by_cases h0 : len = 0
  · exact Or.inl h0
  · obtain ⟨g, c, e1, hB, hg⟩ := h.form (by omega)
    obtain ⟨rfl, -, -⟩ : a = some ⟨g, 0, none⟩ ∧ len = len ∧ cap = c := by simpa using e1
    refine Or.inr ⟨g, rfl, hB, hg, fun i hi => ⟨⟨ss.getD i ByteArray.empty, ?_⟩, h.frozenAt i⟩⟩
    rw [h.cellAt i (by omega)]
    simp [hl, hi]
set_option maxHeartbeats 1000000 in
theorem markStrs0 (a : Option Addr) (len cap : Nat) (w : World) (h : len = 0) :
    Calls Tryz.prog 19 #[.slice a len cap, .int .i64 1] w fun e w' => e = .returned (.int .i64 (1 + len)) ∧ w' = w := by
  have hle : len ≤ 0 := by omega
  have HP : Hid (Ending.returned (.int .i64 1) = .returned (.int .i64 (1 + len))) := by show _ = _; rw [h]; simp
  clear h
  go_enter Tryz.func19, Tryz.ntmps19
  go_wp2_with fail
  go_loopw [5, 1] (fun i v wr => i = .int .i64 0 ∧ v = .int .i64 1 ∧ wr = w) (fun i _ _ => 0)
  case atStart => exact ⟨rfl, rfl, rfl⟩
  case round =>
    obtain ⟨rfl, rfl, rfl⟩ := hrel
    go_wp2
    go_ret
    exact ⟨HP.out, rfl⟩
theorem markStrs1 (B : Nat) (a : Option Addr) (len cap : Nat) (w : World) (h : StrsW B w a len) (hl : len ≤ 1048576) :
    Calls Tryz.prog 19 #[.slice a len cap, .int .i64 1] w fun e w' => e = .returned (.int .i64 (1 + len)) ∧ (len = 0 ∧ w' = w ∨ 0 < len ∧ ∃ g, a = some ⟨g, 0, none⟩ ∧ B ≤ g ∧ g < w.heap.size ∧ w.grownBy w' (some g) ∧ Marked w' g len 1) := by
  rcases Nat.eq_zero_or_pos len with h0 | h0
  · refine (markStrs0 a len cap w h0).mono ?_
    rintro e w' ⟨e1, rfl⟩
    exact ⟨e1, Or.inl ⟨h0, rfl⟩⟩
  · refine (markStrs B a len cap 1 w h hl (by omega) (by omega)).mono ?_
    rintro e w' ⟨e1, h | h⟩
    · omega
    · exact ⟨e1, Or.inr ⟨h0, h⟩⟩
theorem heldStrs1 (a : Option Addr) (len cap : Nat) (w : World) (h : len = 0 ∨ ∃ g, a = some ⟨g, 0, none⟩ ∧ g < w.heap.size ∧ Marked w g len 1) (hl : len ≤ 1048576) :
    Calls Tryz.prog 20 #[.slice a len cap, .int .i64 1] w fun e w' => e = .returned (.int .i64 (1 + len)) ∧ Below w.heap.size w w' :=
  heldStrs a len cap 1 w h hl (by omega) (by omega)
theorem Marked.kept {w w' : World} {g len k0 : Nat} (h : Marked w g len k0) (hg : g < w.heap.size) (hb : Below w.heap.size w w') : Marked w' g len k0 := fun i hi => (hb.cell (p := ⟨g, i, none⟩) hg).trans (h i hi)
def Held (w : World) (a : Option Addr) (len : Nat) : Prop := len = 0 ∨ ∃ g, a = some ⟨g, 0, none⟩ ∧ g < w.heap.size ∧ Marked w g len 1
end Go.Proofs.YtgoaajnppadmjaaGreatDoor
