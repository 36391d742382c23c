/-
  Whether two programs are alike, as the laws ask it.
-/
import Derived.Test.YtjphjnopdlfplaaGreatDoorJ15
import Derived.BigQuiet
import Derived.Deep.QuietTactic
namespace Go.Proofs.YtjphjnopdlfplaaGreatDoor
open Go.RowKit
set_option linter.unusedVariables false
set_option linter.unusedSimpArgs false

set_option maxHeartbeats 4000000 in
theorem wsMarksC (a a' : Option Addr) (m c c' : Nat) (ms : List (Int × Int)) (w : World) (h : MarksN All w a m ms) (h' : MarksN All w a' m ms) (hl : m ≤ 1048576) :
    Calls Tryz.prog 47 #[.slice a m c, .slice a' m c'] w fun e w' => e = .returned (.bool true) ∧ ∃ q, w' = w.drewN q := by
  have h0 := h.2
  have h0' := h'.2
  clear h h'
  go_enter Tryz.func47, Tryz.ntmps47
  go_wp2_with fail
  go_loopw [5] (fun i wr => ∃ k : Nat, k ≤ m ∧ i = .int .i64 k ∧ ∃ q, wr = w.drewN q) (fun i _ => m - (intOf i).toNat)
  case atStart => exact ⟨0, Nat.zero_le _, rfl, 0, rfl⟩
  case round =>
    obtain ⟨k, hk, rfl, q, rfl⟩ := hrel
    rcases Nat.lt_or_ge k m with hlt | hge
    · rcases h0 with hc | ⟨b, off, rfl, -, hbl, hcell⟩
      · omega
      rcases h0' with hc' | ⟨b', off', rfl, -, hbl', hcell'⟩
      · omega
      obtain ⟨c1, c2⟩ := hcell k hlt
      obtain ⟨c3, c4⟩ := hcell' k hlt
      clear hcell hcell'
      generalize ms.getD k (0, 0) = s at *
      have k1 : (k : Int) < m := by omega
      have k0 : (0 : Int) ≤ k := by omega
      go_wp2_with fail
      go_quiet (fail)
      go_wp2
      go_roundw
      case rel => exact ⟨k + 1, by omega, by go_num, _, rfl⟩
      case measure => simp [intOf]; omega
    · obtain rfl : k = m := by omega
      go_wp2
      go_ret
      exact ⟨rfl, q, rfl⟩
set_option maxRecDepth 20000 in
set_option maxHeartbeats 8000000 in
theorem wsCodeC (a a' : Option Addr) (n c c' : Nat) (ds : List Pl) (w : World) (h : PlsN All w a n ds) (h' : PlsN All w a' n ds) (hs : ∀ d ∈ ds, SmallP d) (hl : n ≤ 1048576) :
    Calls Tryz.prog 18 #[.slice a n c, .slice a' n c'] w fun e w' => e = .returned (.bool true) ∧ ∃ q, w' = w.drewN q := by
  have H := Lib.hid h
  have H' := Lib.hid h'
  have HS := Lib.hid hs
  have HN : Hid (n = ds.length) := h.1
  clear h h' hs
  go_enter Tryz.func18, Tryz.ntmps18
  go_wp2_with fail
  go_loopw [5] (fun i wr => ∃ k : Nat, k ≤ n ∧ i = .int .i64 k ∧ ∃ q, wr = w.drewN q) (fun i _ => n - (intOf i).toNat)
  case atStart => exact ⟨0, Nat.zero_le _, rfl, 0, rfl⟩
  case round =>
    obtain ⟨k, hk, rfl, q, rfl⟩ := hrel
    rcases Nat.lt_or_ge k n with hlt | hge
    · have hkl : k < ds.length := by have := HN.out; omega
      obtain ⟨b, off, rfl, -, hbl, hrow⟩ := H.out.cells (by omega)
      obtain ⟨f, ⟨y0, y1, y2, y3⟩, ht⟩ := hrow k hkl
      obtain ⟨b', off', rfl, -, hbl', hrow'⟩ := H'.out.cells (by omega)
      obtain ⟨f', ⟨x0, x1, x2, x3⟩, ht'⟩ := hrow' k hkl
      obtain ⟨e1, e2, e3, hm, -⟩ := ht
      obtain ⟨e1', e2', e3', hm', -⟩ := ht'
      have hsm := (HS.out ds[k] (List.getElem_mem _)).2
      rw [e1] at y0
      rw [e2] at y1
      rw [e3] at y2
      rw [e1'] at x0
      rw [e2'] at x1
      rw [e3'] at x2
      rw [hm.1] at y3
      rw [hm'.1] at x3
      have hM : ∀ j, MarksN All (w.drewN j) f.ma ds[k].ms.length ds[k].ms := fun j => by have := hm; rw [hm.1] at this; exact this.kept (same_of_below (belowN (Below.refl _ _) j))
      have hM' : ∀ j, MarksN All (w.drewN j) f'.ma ds[k].ms.length ds[k].ms := fun j => by have := hm'; rw [hm'.1] at this; exact this.kept (same_of_below (belowN (Below.refl _ _) j))
      have HC : Hid (∀ j, Calls Tryz.prog 47 #[.slice f.ma ds[k].ms.length f.mc, .slice f'.ma ds[k].ms.length f'.mc] (w.drewN j) fun e w' => e = .returned (.bool true) ∧ ∃ q, w' = (w.drewN j).drewN q) := Lib.hid (fun j => wsMarksC _ _ _ _ _ _ _ (hM j) (hM' j) hsm)
      clear hm hm' hM hM' e1 e2 e3 e1' e2' e3' hrow hrow' hsm hbl hbl'
      have cc : ∀ j, Calls Tryz.prog 47 #[.slice f.ma ds[k].ms.length f.mc, .slice f'.ma ds[k].ms.length f'.mc] (w.drewN (q + j)) fun e w' => e = .returned (.bool true) ∧ ∃ p, w' = w.drewN (q + p) := fun j => (HC.out (q + j)).mono (fun _ _ ⟨he, p, hp⟩ => ⟨he, j + p, by rw [hp, World.drewN_drewN, Nat.add_assoc]⟩)
      generalize ds[k].op = o at *
      generalize ds[k].num = nn at *
      generalize ds[k].nm = s at *
      generalize ds[k].ms.length = ml at *
      have k1 : (k : Int) < n := by omega
      have k0 : (0 : Int) ≤ k := by omega
      have q1 : (s.toList != s.toList) = false := by simp
      go_wp2_with fail
      go_big_quiet (first | (go_at_call 47; exact cc _))
      go_wp2
      go_roundw
      case rel => exact ⟨k + 1, by omega, by go_num, _, rfl⟩
      case measure => simp [intOf]; omega
    · obtain rfl : k = n := by omega
      go_wp2
      go_ret
      exact ⟨rfl, q, rfl⟩
end Go.Proofs.YtjphjnopdlfplaaGreatDoor
