/-
  The law FnTiersGrow's own walk.
-/
import Derived.Test.YtfadadddofijnaaDrawTiers
import Derived.Test.YtfadadddofijnaaTiersLaw
import Derived.Test.YtfadadddofijnaaTiersGrow
namespace Go.Proofs.Ytfadadddofijnaa
open Go.RowKit
set_option linter.unusedVariables false

theorem ret_more {x y v : Int} {c : Bool} (hx : 0 ≤ x) (h : c = true → y = x + v) : (decide (0 ≤ x) && (!c || (y == x + v))) = true := by
  cases c with
  | false => simp [hx]
  | true => simp [hx, h rfl]

set_option maxHeartbeats 1000000 in
theorem lawTiersGrow (a0 : Option Addr) (len0 cap0 : Nat) (z : List Int) (w : World) (w0 : IsRow .u8 w a0 len0 cap0 z) :
    Calls Try.prog 3 #[.slice a0 len0 cap0] w fun e w' => e = .returned (.bool true) ∧ Below w.heap.size w w' := by
  rcases Nat.lt_or_ge 1048576 len0 with hbig | hbig
  · clear w0
    go_enter Try.func3, Try.ntmps3
    go_wp2
    go_ret
    exact ⟨rfl, Below.refl _ _⟩
  have W0 := Lib.hid w0
  clear w0
  go_enter Try.func3, Try.ntmps3
  go_wp2_with fail
  refine (drawTiers a0 len0 cap0 z _ W0.out).mono ?_
  rintro e w1 ⟨n, g, len, cap, f, p, n0, n1, l0, l1, rfl, hM, hb1⟩
  have hl : len ≤ 1048576 := by omega
  go_wp2_with fail
  refine (implTiersOf n _ _ _ f p _ hM hl).mono ?_
  rintro e w2 ⟨x, b, rfl, hx, hb2⟩
  have hbw2 : Below w.heap.size w w2 := hb1.trans (hb2.mono hb1.size)
  go_wp2_with fail
  refine (specTiersOf n _ _ _ f p _ (hM.kept hb2) hl).mono ?_
  rintro e w3 ⟨x', b', rfl, hx', hb3⟩
  obtain ⟨rfl, rfl⟩ := hx'.same hx
  clear hx'
  have hbw3 : Below w.heap.size w w3 := hbw2.trans (hb3.mono hbw2.size)
  have hM3 : Marks w3 (some ⟨g, 0, none⟩) len f p := (hM.kept hb2).kept hb3
  cases b' with
  | false =>
    rcases hx with ⟨h, -⟩ | ⟨-, -, rfl⟩
    · cases h
    · clear hM hM3
      go_wp2
      go_ret
      exact ⟨rfl, hbw3⟩
  | true =>
    obtain ⟨hm, n2, n3, x0, x1⟩ := hx.yes
    have Hm := Lib.hid hm
    have Hx := Lib.hid hx
    have HB := lastP_bd (n := n) hm
    have HB := Lib.hid HB
    clear hm hx hM
    go_wp2_with fail
    go_loopw [9, 10] (fun v i wr => ∃ k : Nat, k ≤ len ∧ i = .int .i64 k ∧ ∃ s : Int, v = .int .i64 s ∧ Hid (s = lastP f p n k) ∧ Below w3.heap.size w3 wr) (fun _ i _ => len - (intOf i).toNat)
    case atStart => exact ⟨0, Nat.zero_le _, rfl, 0, rfl, rfl, Below.refl _ _⟩
    case round =>
      obtain ⟨k, hk, rfl, s, rfl, hs, hbw⟩ := hrel
      rcases Nat.lt_or_ge k len with hlt | hge
      · rcases hM3.kept hbw with h | ⟨bb, off, e0, HB2, hc⟩
        · omega
        simp only [Option.some.injEq, Addr.mk.injEq] at e0
        obtain ⟨rfl, rfl, -⟩ := e0
        obtain ⟨d1, d2⟩ := hc k hlt
        rw [Nat.zero_add] at d1 d2
        clear hc
        rcases Int.lt_or_le n (f k) with h1 | h1
        · have hp : Hid (lastP f p n (k + 1) = lastP f p n k) := by show _ = _; simp only [lastP]; rw [if_neg (by omega)]
          go_wp2
          go_roundw
          case rel => exact ⟨k + 1, hlt, by go_num, s, rfl, hs.out.trans hp.out.symm, hbw⟩
          case measure => simp [intOf]; omega
        · have hp : Hid (lastP f p n (k + 1) = p k) := by show _ = _; simp only [lastP]; rw [if_pos h1]
          go_wp2
          go_roundw
          case rel => exact ⟨k + 1, hlt, by go_num, p k, rfl, hp.out.symm, hbw⟩
          case measure => simp [intOf]; omega
      · obtain rfl : k = len := by omega
        obtain ⟨s0, s1⟩ : 0 ≤ s ∧ s ≤ 1000000 := by rw [hs.out]; exact HB.out k (Nat.le_refl _)
        have hMr := hM3.kept hbw
        have hbwr : Below w.heap.size w wr := hbw3.trans (hbw.mono hbw3.size)
        go_wp2_with fail
        refine (implTiersOf (n + 1) _ _ _ f p _ hMr hl).mono ?_
        rintro e w4 ⟨y, c, rfl, hy, hb4⟩
        have hbw4 : Below w.heap.size w w4 := hbwr.trans (hb4.mono hbwr.size)
        cases c with
        | false =>
          clear hy
          go_wp2
          go_ret
          exact ⟨rfl, hbw4⟩
        | true =>
          have hg : y = x' + s := by rw [hs.out]; exact grows Hx.out hy
          subst hg
          clear hy
          go_wp2
          go_ret
          exact ⟨rfl, hbw4⟩
end Go.Proofs.Ytfadadddofijnaa
