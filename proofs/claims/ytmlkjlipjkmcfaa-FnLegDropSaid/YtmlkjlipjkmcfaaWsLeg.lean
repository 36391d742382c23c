/-
  The law's own comparison of legs, of two that are the same.
-/
import Derived.Test.YtmlkjlipjkmcfaaLegRowT
import Derived.Test.YtmlkjlipjkmcfaaLegDropMath
namespace Go.Proofs.Ytmlkjlipjkmcfaa
open Go.RowKit
set_option linter.unusedVariables false
set_option linter.unusedSimpArgs false

set_option maxHeartbeats 1000000 in
theorem wsIntsS (a a' : Option Addr) (len cap cap' : Nat) (z : Nat → Int) (w : World) (h : Nums w a len z) (h' : Nums w a' len z) (hl : len ≤ 1048576) :
    Calls Try.prog 30 #[.slice a len cap, .slice a' len cap'] w fun e w' => e = .returned (.bool true) ∧ Drew w w' := by
  go_enter Try.func30, Try.ntmps30
  go_wp2_with fail
  go_loopw [5] (fun i wr => ∃ k : Nat, k ≤ len ∧ i = .int .i64 k ∧ ∃ q, wr = w.drewN q) (fun i _ => len - (intOf i).toNat)
  case atStart => exact ⟨0, Nat.zero_le _, rfl, 0, rfl⟩
  case round =>
    obtain ⟨k, hk, rfl, q, rfl⟩ := hrel
    rcases Nat.lt_or_ge k len with hlt | hge
    · rcases h with hc | ⟨b, off, rfl, hbl, hcell⟩
      · omega
      rcases h' with hc' | ⟨b', off', rfl, hbl', hcell'⟩
      · omega
      have c1 := hcell k hlt
      have c2 := hcell' k hlt
      clear hcell hcell'
      generalize z k = s at *
      have k1 : (k : Int) < len := by omega
      have k0 : (0 : Int) ≤ k := by omega
      go_wp2_with fail
      go_quiet (fail)
      go_wp2
      go_roundw
      case rel => exact ⟨k + 1, by omega, by go_num, _, rfl⟩
      case measure => simp [intOf]; omega
    · obtain rfl : k = len := by omega
      go_wp2
      go_ret
      exact ⟨rfl, q, rfl⟩
set_option maxHeartbeats 4000000 in
theorem wsLegS (d : LegD) (p q : LegP) (w : World) (h : LegIn w d p) (h' : LegIn w d q) (hf : Fits d) :
    Calls Try.prog 20 #[LegV d p, LegV d q] w fun e w' => e = .returned (.bool true) ∧ Below w.heap.size w w' := by
  obtain ⟨nm, fr, to, dep, arr, cap, nL, L, nS, S, nB, B, nH, t, c, s⟩ := d
  obtain ⟨aL, cL, aS, cS, aB, cB, aH, cH⟩ := p
  obtain ⟨bL, kL, bS, kS, bB, kB, bH, kH⟩ := q
  obtain ⟨f1, f2, f3, f4, f5, f6, f7⟩ := hf
  obtain ⟨i1, i2, i3, i4⟩ := h
  obtain ⟨j1, j2, j3, j4⟩ := h'
  dsimp only at f1 f2 f3 f4 f5 f6 f7 i1 i2 i3 i4 j1 j2 j3 j4
  have I1 := Lib.hid i1
  have I2 := Lib.hid i2
  have I3 := Lib.hid i3
  have I4 := Lib.hid i4
  have J1 := Lib.hid j1
  have J2 := Lib.hid j2
  have J3 := Lib.hid j3
  have J4 := Lib.hid j4
  clear i1 i2 i3 i4 j1 j2 j3 j4
  unfold LegV
  dsimp only
  have hA : Below w.heap.size w ((w.alloc (.cells #[Value.string nm, Value.string fr, Value.string to, Value.int IntKind.i64 dep, Value.int IntKind.i64 arr, Value.int IntKind.i64 cap, Value.slice aL nL cL, Value.slice aS nS cS, Value.slice aB nB cB, Value.slice aH nH cH] 31)).alloc (.cells #[Value.string nm, Value.string fr, Value.string to, Value.int IntKind.i64 dep, Value.int IntKind.i64 arr, Value.int IntKind.i64 cap, Value.slice bL nL kL, Value.slice bS nS kS, Value.slice bB nB kB, Value.slice bH nH kH] 31)) := ((Below.refl _ _).alloc (Nat.le_refl _) _).alloc (by simp) _
  have X1 : LegBx ((w.alloc (.cells #[Value.string nm, Value.string fr, Value.string to, Value.int IntKind.i64 dep, Value.int IntKind.i64 arr, Value.int IntKind.i64 cap, Value.slice aL nL cL, Value.slice aS nS cS, Value.slice aB nB cB, Value.slice aH nH cH] 31)).alloc (.cells #[Value.string nm, Value.string fr, Value.string to, Value.int IntKind.i64 dep, Value.int IntKind.i64 arr, Value.int IntKind.i64 cap, Value.slice bL nL kL, Value.slice bS nS kS, Value.slice bB nB kB, Value.slice bH nH kH] 31)) w.heap.size 31 ⟨nm, fr, to, dep, arr, cap, nL, L, nS, S, nB, B, nH, t, c, s⟩ ⟨aL, cL, aS, cS, aB, cB, aH, cH⟩ := (LegBx.new w 31 ⟨nm, fr, to, dep, arr, cap, nL, L, nS, S, nB, B, nH, t, c, s⟩ ⟨aL, cL, aS, cS, aB, cB, aH, cH⟩).kept ((Below.refl _ _).alloc (Nat.le_refl _) _)
  have X2 : LegBx ((w.alloc (.cells #[Value.string nm, Value.string fr, Value.string to, Value.int IntKind.i64 dep, Value.int IntKind.i64 arr, Value.int IntKind.i64 cap, Value.slice aL nL cL, Value.slice aS nS cS, Value.slice aB nB cB, Value.slice aH nH cH] 31)).alloc (.cells #[Value.string nm, Value.string fr, Value.string to, Value.int IntKind.i64 dep, Value.int IntKind.i64 arr, Value.int IntKind.i64 cap, Value.slice bL nL kL, Value.slice bS nS kS, Value.slice bB nB kB, Value.slice bH nH kH] 31)) (w.heap.size + 1) 31 ⟨nm, fr, to, dep, arr, cap, nL, L, nS, S, nB, B, nH, t, c, s⟩ ⟨bL, kL, bS, kS, bB, kB, bH, kH⟩ := by
    have := LegBx.new (w.alloc (.cells #[Value.string nm, Value.string fr, Value.string to, Value.int IntKind.i64 dep, Value.int IntKind.i64 arr, Value.int IntKind.i64 cap, Value.slice aL nL cL, Value.slice aS nS cS, Value.slice aB nB cB, Value.slice aH nH cH] 31)) 31 ⟨nm, fr, to, dep, arr, cap, nL, L, nS, S, nB, B, nH, t, c, s⟩ ⟨bL, kL, bS, kS, bB, kB, bH, kH⟩
    rwa [World.size_alloc] at this
  have HA := Lib.hid hA
  have HX1 := Lib.hid X1
  have HX2 := Lib.hid X2
  clear hA X1 X2
  go_enter Try.func20, Try.ntmps20
  go_wp2_with fail
  refine (wsIntsS aL bL nL _ _ L _ (I1.out.kept HA.out) (J1.out.kept HA.out) f4).mono ?_
  rintro e w' ⟨rfl, q1, rfl⟩
  go_wp2_with fail
  refine (wsIntsS aS bS nS _ _ S _ (I2.out.kept (belowN HA.out _)) (J2.out.kept (belowN HA.out _)) f5).mono ?_
  rintro e w' ⟨rfl, q2, rfl⟩
  go_wp2_with fail
  refine (wsIntsS aB bB nB _ _ B _ (I3.out.kept (belowN HA.out _)) (J3.out.kept (belowN HA.out _)) f6).mono ?_
  rintro e w' ⟨rfl, q3, rfl⟩
  go_wp2_with fail
  generalize ((w.alloc (.cells #[Value.string nm, Value.string fr, Value.string to, Value.int IntKind.i64 dep, Value.int IntKind.i64 arr, Value.int IntKind.i64 cap, Value.slice aL nL cL, Value.slice aS nS cS, Value.slice aB nB cB, Value.slice aH nH cH] 31)).alloc (.cells #[Value.string nm, Value.string fr, Value.string to, Value.int IntKind.i64 dep, Value.int IntKind.i64 arr, Value.int IntKind.i64 cap, Value.slice bL nL kL, Value.slice bS nS kS, Value.slice bB nB kB, Value.slice bH nH kH] 31)) = w1 at *
  go_loopw [5] (fun i wr => ∃ k : Nat, k ≤ nH ∧ i = .int .i64 k ∧ ∃ q, wr = w1.drewN q) (fun i _ => nH - (intOf i).toNat)
  case atStart => exact ⟨0, Nat.zero_le _, rfl, _, rfl⟩
  case round =>
    obtain ⟨k, hk, rfl, q, rfl⟩ := hrel
    have Y1 := HX1.out
    have Y2 := HX2.out
    have y9 := Y1.c9
    have x9 := Y2.c9
    clear Y1 Y2
    dsimp only at y9 x9
    rcases Nat.lt_or_ge k nH with hlt | hge
    · rcases I4.out.kept HA.out with hc | ⟨b, off, rfl, hbl, hcell⟩
      · omega
      rcases J4.out.kept HA.out with hc' | ⟨b', off', rfl, hbl', hcell'⟩
      · omega
      obtain ⟨c1, c2, c3⟩ := hcell k hlt
      obtain ⟨d1, d2, d3⟩ := hcell' k hlt
      clear hcell hcell'
      generalize t k = x at *
      generalize c k = y at *
      generalize s k = z at *
      have k1 : (k : Int) < nH := by omega
      have k0 : (0 : Int) ≤ k := by omega
      go_wp2_with fail
      go_quiet (fail)
      go_wp2
      go_roundw
      case rel => exact ⟨k + 1, by omega, by go_num, _, rfl⟩
      case measure => simp [intOf]; omega
    · obtain rfl : k = nH := by omega
      go_wp2
      go_ret
      exact ⟨rfl, belowN HA.out _⟩
end Go.Proofs.Ytmlkjlipjkmcfaa
