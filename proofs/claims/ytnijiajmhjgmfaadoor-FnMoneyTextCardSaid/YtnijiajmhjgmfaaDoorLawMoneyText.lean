/-
  The law FnMoneyText's own walk: a text read and written, a number written and read.
-/
import Derived.Test.YtnijiajmhjgmfaaDoorDrawText
namespace Go.Proofs.YtnijiajmhjgmfaaDoor
open Go.RowKit
set_option linter.unusedVariables false

theorem isRow_below {k : IntKind} {w w' : World} {a : Option Addr} {len cap : Nat} {z : List Int} (h : IsRow k w a len cap z) (hb : Below w.heap.size w w') : IsRow k w' a len cap z := by
  rcases h with h | ⟨x, h1, h2, h3, h4, h5, h6⟩
  · exact Or.inl h
  · refine Or.inr ⟨x, h1, h2, h3, h4, fun i hi => ?_, h6⟩
    have hc := h5 i hi
    exact (hb.cell (p := x.add i) (World.block_lt_of_cell? w _ hc)).trans hc
theorem read_yes {s : ByteArray} {v : Int} (h : ReadIs s v true) : okB v = true ∧ s = mS v := by
  rcases h with ⟨-, ho, hs⟩ | ⟨h, -⟩
  · exact ⟨ho, hs⟩
  · cases h
theorem read_no {s : ByteArray} {v : Int} (h : ReadIs s v false) : ∀ n, okB n = true → s ≠ mS n := by
  rcases h with ⟨h, -⟩ | ⟨-, -, h⟩
  · cases h
  · exact h
theorem read_of_write {n v : Int} {b : Bool} (h : ReadIs (writeStr n) v b) : b = okB n ∧ (b = true → v = n) := by
  cases ho : okB n with
  | true =>
    have hw := write_ok ho
    rw [hw] at h
    cases b with
    | true =>
      obtain ⟨hv, hs⟩ := read_yes h
      refine ⟨rfl, fun _ => money_inj (ok_abs hv) (ok_abs ho) ?_⟩
      have := congrArg (fun b : ByteArray => b.data.toList) hs.symm
      simpa [mS] using this
    | false => exact absurd rfl (read_no h n ho)
  | false =>
    cases b with
    | true =>
      obtain ⟨hv, hs⟩ := read_yes h
      rw [writeStr, ho] at hs
      have h1 := mS_size v
      rw [← hs] at h1
      have := sz0
      simp only [Bool.false_eq_true, if_false] at h1
      omega
    | false => exact ⟨rfl, fun h => by cases h⟩

set_option maxHeartbeats 2000000 in
theorem lawMoneyText (a0 : Option Addr) (len0 cap0 : Nat) (z0 : List Int) (a1 : Option Addr) (len1 cap1 : Nat) (z1 : List Int) (w : World) (w0 : IsRow .u8 w a0 len0 cap0 z0) (w1 : IsRow .u8 w a1 len1 cap1 z1) (hL : LaidE w) :
    Calls Tryd.prog 5 #[.slice a0 len0 cap0, .slice a1 len1 cap1] w fun e w' => e = .returned (.bool true) ∧ Below w.heap.size w w' := by
  rcases Nat.lt_or_ge 1048576 len0 with hb0 | hb0
  · clear w0 w1
    go_enter Tryd.func5, Tryd.ntmps5
    go_wp2
    go_ret
    exact ⟨rfl, Below.refl _ _⟩
  rcases Nat.lt_or_ge 1048576 len1 with hb1 | hb1
  · clear w0 w1
    go_enter Tryd.func5, Tryd.ntmps5
    go_wp2
    go_ret
    exact ⟨rfl, Below.refl _ _⟩
  · have W0 := Lib.hid w0
    have W1 := Lib.hid w1
    clear w0 w1
    go_enter Tryd.func5, Tryd.ntmps5
    go_wp2_with fail
    refine (drawRead a0 len0 cap0 z0 _ W0.out).mono ?_
    rintro e wa ⟨s, hs, rfl, hba⟩
    have La := laidE_stays hL hba
    go_wp2_with fail
    refine (implRead s _ (by omega) La).mono ?_
    rintro e wb ⟨v, b, rfl, hv, hbb⟩
    have Lb := laidE_stays La hbb
    go_wp2_with fail
    refine (specRead s _ (by omega)).mono ?_
    rintro e wc ⟨v', b', rfl, hv', hbc⟩
    have Lc := laidE_stays Lb hbc
    obtain ⟨rfl, rfl⟩ := read_same hv'.out hv.out
    have hbw : Below w.heap.size w wc := bt (bt hba hbb) hbc
    cases b' with
    | true =>
      obtain ⟨ho, hsv⟩ := read_yes hv.out
      have hws : Hid (writeStr v' = s) := (write_ok ho).trans hsv.symm
      clear hv hv' ho hsv
      go_wp2_with fail
      refine (implWrite v' _ Lc.1).mono ?_
      rintro e wd ⟨s1, rfl, hs1, he1, hbd⟩
      obtain rfl : s1 = s := he1.out.trans hws.out
      clear he1
      have Ld := laidE_stays Lc hbd
      have hbx : Below w.heap.size w wd := bt hbw hbd
      go_wp2_with fail
      refine (drawWrite a1 len1 cap1 z1 _ (isRow_below W1.out hbx)).mono ?_
      rintro e we ⟨d, rfl, hbe⟩
      have Le := laidE_stays Ld hbe
      go_wp2_with fail
      refine (implWrite d _ Le.1).mono ?_
      rintro e wf ⟨t, rfl, ht, het, hbf⟩
      have Lf := laidE_stays Le hbf
      go_wp2_with fail
      refine (implRead t _ (by omega) Lf).mono ?_
      rintro e wg ⟨u, c, rfl, hu, hbg⟩
      have hrw : Hid (c = okB d ∧ (c = true → u = d)) := read_of_write (by rw [← het.out]; exact hu.out)
      have Lg := laidE_stays Lf hbg
      go_wp2_with fail
      refine (specWrite d _).mono ?_
      rintro e wh ⟨t', rfl, ht', het', hbh⟩
      obtain rfl : t' = t := het'.out.trans het.out.symm
      clear het het' hu
      have hfin : Below w.heap.size w wh := bt (bt (bt (bt hbx hbe) hbf) hbg) hbh
      go_wp2_with fail
      refine (specMoneyOk d _).mono ?_
      rintro e w' ⟨rfl, rfl⟩
      rw [← hrw.out.1]
      cases c with
      | true =>
        obtain rfl : u = d := hrw.out.2 rfl
        clear hrw
        go_wp2
        go_ret
        exact ⟨rfl, hfin⟩
      | false =>
        clear hrw
        go_wp2
        go_ret
        exact ⟨rfl, hfin⟩
    | false =>
      clear hv hv'
      have Ld := Lc
      have hbx := hbw
      go_wp2_with fail
      refine (drawWrite a1 len1 cap1 z1 _ (isRow_below W1.out hbx)).mono ?_
      rintro e we ⟨d, rfl, hbe⟩
      have Le := laidE_stays Ld hbe
      go_wp2_with fail
      refine (implWrite d _ Le.1).mono ?_
      rintro e wf ⟨t, rfl, ht, het, hbf⟩
      have Lf := laidE_stays Le hbf
      go_wp2_with fail
      refine (implRead t _ (by omega) Lf).mono ?_
      rintro e wg ⟨u, c, rfl, hu, hbg⟩
      have hrw : Hid (c = okB d ∧ (c = true → u = d)) := read_of_write (by rw [← het.out]; exact hu.out)
      have Lg := laidE_stays Lf hbg
      go_wp2_with fail
      refine (specWrite d _).mono ?_
      rintro e wh ⟨t', rfl, ht', het', hbh⟩
      obtain rfl : t' = t := het'.out.trans het.out.symm
      clear het het' hu
      have hfin : Below w.heap.size w wh := bt (bt (bt (bt hbx hbe) hbf) hbg) hbh
      go_wp2_with fail
      refine (specMoneyOk d _).mono ?_
      rintro e w' ⟨rfl, rfl⟩
      rw [← hrw.out.1]
      cases c with
      | true =>
        obtain rfl : u = d := hrw.out.2 rfl
        clear hrw
        go_wp2
        go_ret
        exact ⟨rfl, hfin⟩
      | false =>
        clear hrw
        go_wp2
        go_ret
        exact ⟨rfl, hfin⟩
end Go.Proofs.YtnijiajmhjgmfaaDoor
