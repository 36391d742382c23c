/-
  The law FnExactFareShares's own walk.
-/
import Derived.Test.YtnhniglldkmanaaMoneyShare
namespace Go.Proofs.Ytnhniglldkmanaa
open Go.RowKit
set_option linter.unusedVariables false

theorem NumsW.far {B : Nat} {w w' : World} {a : Option Addr} {len : Nat} {z : Nat → Int} {row : Option Nat} (h : NumsW B w a len z) (hg : w.grownBy w' row) (hr : ∀ k, row = some k → k < B) : NumsW B w' a len z := by
  rcases h with h | ⟨g, h1, h2, h3, h4⟩
  · exact Or.inl h
  · have e := hg.block g h3 (fun e => by have := hr g e.symm; omega)
    exact Or.inr ⟨g, h1, h2, Nat.lt_of_lt_of_le h3 hg.size, fun i hi => ⟨(World.cell?_of_block (a := ⟨g, i, none⟩) e).trans (h4 i hi).1, (World.frozen?_of_block (a := ⟨g, i, none⟩) e).trans (h4 i hi).2⟩⟩
theorem Nums.kept' {w w' : World} {a : Option Addr} {len : Nat} {z : Nat → Int} (h : Nums w a len z) (hb : Below w.heap.size w w') : Nums w' a len z := h.kept hb
def Mark2 (B : Nat) (a : Option Addr) (len : Nat) (k0 : Int) (w : World) (e : Ending) (w' : World) : Prop :=
  e = .returned (.int .i64 (k0 + len)) ∧ Nums w' a len (fun i => k0 + i) ∧ ∃ row, w.grownBy w' row ∧ (∀ k, row = some k → 0 < len ∧ a = some ⟨k, 0, none⟩ ∧ B ≤ k)

set_option maxHeartbeats 1000000 in
theorem markInts2 (B : Nat) (a : Option Addr) (len cap : Nat) (z : Nat → Int) (k0 : Int) (w : World) (h : NumsW B w a len z) (hl : len ≤ 1048576) (h0 : 0 ≤ k0) (h1 : k0 ≤ 1048576) :
    Calls Try.prog 11 #[.slice a len cap, .int .i64 k0] w (Mark2 B a len k0 w) := by
  rcases Nat.eq_zero_or_pos len with h | hpos
  · have hle : len ≤ 0 := by omega
    have hpost : Mark2 B a len k0 w (.returned (.int .i64 k0)) w := ⟨by rw [h]; simp, Or.inl h, none, grownN w 0 _, fun k e => by cases e⟩
    have HP := Lib.hid hpost
    clear h hpost
    go_enter Try.func11, Try.ntmps11
    go_wp2_with fail
    go_loopw [5, 1] (fun i v wr => i = .int .i64 0 ∧ v = .int .i64 k0 ∧ wr = w) (fun i _ _ => 0)
    case atStart => exact ⟨rfl, rfl, rfl⟩
    case round =>
      obtain ⟨rfl, rfl, rfl⟩ := hrel
      go_wp2
      go_ret
      exact HP.out
  · rcases h with h | ⟨g', k1, k2, k3, k4⟩
    · omega
    refine (markInts B a len cap z k0 w (Or.inr ⟨g', k1, k2, k3, k4⟩) hl h0 h1).mono ?_
    rintro e w' ⟨he, h⟩
    rcases h with ⟨h2, rfl⟩ | ⟨g, h1, h2, h3, h4⟩
    · exact ⟨he, Or.inl h2, none, grownN w' 0 _, fun k e => by cases e⟩
    · rw [h1] at k1
      simp only [Option.some.injEq, Addr.mk.injEq] at k1
      obtain ⟨rfl, -, -⟩ := k1
      exact ⟨he, Or.inr ⟨g, 0, h1, by omega, fun i hi => by rw [Nat.zero_add]; exact h4 i hi⟩, some g, h2, fun k e => by cases e; exact ⟨hpos, h1, k2⟩⟩
theorem row_lt {B : Nat} {w : World} {a : Option Addr} {len : Nat} {z : Nat → Int} (h : NumsW B w a len z) {row : Option Nat} {B' : Nat} (hr : ∀ k, row = some k → 0 < len ∧ a = some ⟨k, 0, none⟩ ∧ B' ≤ k) : ∀ k, row = some k → k < w.heap.size := by
  intro k e
  obtain ⟨h0, h1, -⟩ := hr k e
  rcases h with h | ⟨g, k1, k2, k3, k4⟩
  · omega
  · rw [h1] at k1
    simp only [Option.some.injEq, Addr.mk.injEq] at k1
    omega
theorem mpost_two {T : Int} {z : Nat → Int} {n : Nat} {R R' : Nat → Nat} {wS wS' wG wG' : World} {eS eG : Ending} (hR : SOk T z n → InOrder n (shR (absT T) z (sumF z n)) R) (hR' : SOk T z n → InOrder n (shR (absT T) z (sumF z n)) R')
    (hS : MPost T z n R wS eS wS') (hG : MPost T z n R' wG eG wG') : ∃ (aS aG : Option Addr) (m cS cG : Nat) (f : Nat → Int), eS = .returned (.slice aS m cS) ∧ eG = .returned (.slice aG m cG) ∧ NumsW wS.heap.size wS' aS m f ∧ NumsW wG.heap.size wG' aG m f ∧ m ≤ 8 ∧ Below wS.heap.size wS wS' ∧ Below wG.heap.size wG wG' := by
  obtain ⟨aS, lS, cS, rfl, bS, hS⟩ := hS
  obtain ⟨aG, lG, cG, rfl, bG, hG⟩ := hG
  rcases hS with ⟨k, hl, hS⟩ | ⟨k, hl⟩ <;> subst lS
  · rcases hG with ⟨_, hl, hG⟩ | ⟨k', _⟩
    · subst lG
      have e : shareV T z n R' = shareV T z n R := by funext i; exact share_unique k (hR' k) (hR k) i
      rw [e] at hG
      exact ⟨aS, aG, n, cS, cG, _, rfl, rfl, hS, hG, k.2.1.1, bS, bG⟩
    · exact absurd k k'
  · rcases hG with ⟨k', _⟩ | ⟨_, hl⟩
    · exact absurd k' k
    · subst lG
      exact ⟨aS, aG, 0, cS, cG, fun _ => 0, rfl, rfl, Or.inl rfl, Or.inl rfl, by omega, bS, bG⟩
theorem nums_of_row {w : World} {a : Option Addr} {len cap : Nat} {z : List Int} (h : IsRow .i64 w a len cap z) : Nums w a len (fun i => z.getD i 0) ∧ len ≤ cap ∧ cap ≤ maxLen := by
  rcases h with ⟨rfl, rfl, rfl, rfl⟩ | ⟨x, rfl, hl, hm, hz, hcell, hwz⟩
  · exact ⟨Or.inl rfl, Nat.le_refl _, by unfold maxLen; omega⟩
  · refine ⟨?_, hl, hm⟩
    by_cases h0 : len = 0
    · exact Or.inl h0
    · obtain ⟨b, off, spot⟩ := x
      have hc := hcell 0 (by omega)
      have hspot : spot = none := by simpa [Addr.add] using World.cell?_spot hc
      subst hspot
      have hlt := World.block_lt_of_cell? w _ hc
      refine Or.inr ⟨b, off, rfl, by simpa [Addr.add] using hlt, fun i hi => ?_⟩
      have := hcell i (by omega)
      have e : (⟨b, off, none⟩ : Addr).add i = ⟨b, off + i, none⟩ := by by_cases hi0 : i = 0 <;> simp [Addr.add, hi0]
      rw [e] at this
      exact this
theorem bt {a b c : World} (h : Below a.heap.size a b) (k : Below b.heap.size b c) : Below a.heap.size a c := h.trans (k.mono h.size)
theorem bq {w w' : World} (h : Drew w w') : Below w.heap.size w w' := drew_below h

set_option maxHeartbeats 1000000 in
theorem specFare (T : Int) (a : Option Addr) (n cap : Nat) (z : Nat → Int) (R : Nat → Nat) (w : World) (h : Nums w a n z) (hl : n ≤ 1048576) (hR : SOk T z n → InOrder n (shR (absT T) z (sumF z n)) R) :
    Calls Try.prog 8 #[.int .i64 T, .slice a n cap] w (MPost T z n R w) := by
  go_enter Try.func8, Try.ntmps8
  go_wp2_with fail
  refine (specMoneyShare T a n cap z R _ h hl hR).mono ?_
  rintro e w1 ⟨a1, l1, c1, rfl, h1⟩
  go_wp2
  go_ret
  exact ⟨a1, l1, c1, rfl, h1⟩
set_option maxHeartbeats 1000000 in
theorem implFare (T : Int) (a : Option Addr) (n cap : Nat) (z : Nat → Int) (w : World) (h : Nums w a n z) (hl : n ≤ 1048576) :
    Calls Try.prog 6 #[.int .i64 T, .slice a n cap] w fun e w' => ∃ R, (SOk T z n → InOrder n (shR (absT T) z (sumF z n)) R) ∧ MPost T z n R w e w' := by
  go_enter Try.func6, Try.ntmps6
  go_wp2_with fail
  refine (implMoneyShare T a n cap z _ h hl).mono ?_
  rintro e w1 ⟨R, hR, a1, l1, c1, rfl, h1⟩
  have H : Hid (∃ R, (SOk T z n → InOrder n (shR (absT T) z (sumF z n)) R) ∧ MPost T z n R w (.returned (.slice a1 l1 c1)) w1) := ⟨R, hR, a1, l1, c1, rfl, h1⟩
  clear hR h1
  go_wp2
  go_ret
  exact H.out

set_option maxHeartbeats 4000000 in
theorem exactFareShares (T : Int) (a : Option Addr) (n cap : Nat) (zs : List Int) (w : World) (wT : (Lit.int .i64 T).wf = true) (w0 : IsRow .i64 w a n cap zs) :
    Calls Try.prog 4 #[.int .i64 T, .slice a n cap] w fun e w' => e = .returned (.bool true) ∧ Below w.heap.size w w' := by
  obtain ⟨hN, hlc, hcm⟩ := nums_of_row w0
  have hl9 : (n : Int) ≤ 9223372036854775807 := by unfold maxLen at hcm; omega
  clear w0 hcm hlc wT
  generalize (fun i => zs.getD i 0) = z at *
  rcases Nat.lt_or_ge 1048576 n with hbig | hbig
  · clear hN
    go_enter Try.func4, Try.ntmps4
    go_wp2
    go_ret
    exact ⟨rfl, Below.refl _ _⟩
  obtain ⟨R, hR⟩ : ∃ R, SOk T z n → InOrder n (shR (absT T) z (sumF z n)) R := by
    rcases Nat.eq_zero_or_pos n with h | h
    · exact ⟨fun i => i, fun h2 => by have := h2.2.2; rw [h] at this; simp [sumF] at this⟩
    · obtain ⟨R, hR⟩ := exists_order n (shR (absT T) z (sumF z n)) h
      exact ⟨R, fun _ => hR⟩
  have HR := Lib.hid hR
  have HN := Lib.hid hN
  clear hR hN
  go_enter Try.func4, Try.ntmps4
  go_wp2_with fail
  refine (copyInts a n cap z _ HN.out hbig).mono ?_
  rintro e w1 ⟨a1, rfl, hc1, hb1⟩
  go_wp2_with fail
  refine (specFare T a1 n n z R _ hc1.nums hbig HR.out).mono ?_
  intro e w2 hS
  obtain ⟨aS, lS, cS, rfl, hb2, hS'⟩ := id hS
  have hbw2 := bt hb1 hb2
  go_wp2_with fail
  refine (copyInts a n cap z _ (HN.out.kept hbw2) hbig).mono ?_
  rintro e w3 ⟨a3, rfl, hc3, hb3⟩
  have hbw3 := bt hbw2 hb3
  go_wp2_with fail
  refine (implFare T a3 n n z _ hc3.nums hbig).mono ?_
  rintro e w4 ⟨R', hR', hG⟩
  obtain ⟨aS', aG, m, cS', cG, f, eS, rfl, nS, nG, m8, -, hb4⟩ := mpost_two HR.out hR' hS hG
  simp only [Ending.returned.injEq, Value.slice.injEq] at eS
  obtain ⟨rfl, rfl, rfl⟩ := eS
  have HS := Lib.hid hS
  clear hS hG hS' hR'
  have hbw4 := bt hbw3 hb4
  have nS4 : Nums w4 aS lS f := (nS.nums.kept hb3).kept hb4
  have NS := Lib.hid nS.nums
  have NG := Lib.hid nG
  have N3 := Lib.hid hc3
  have NS4 := Lib.hid nS4
  clear nS nG hc3 nS4 hc1
  go_wp2_with fail
  refine (eqInts aG aS lS _ _ f _ NG.out.nums NS4.out (by omega)).mono ?_
  rintro e w5 ⟨rfl, hq5⟩
  have hb5 := bq hq5
  have hbw5 := bt hbw4 hb5
  go_wp2_with fail
  refine (copyInts a n cap z _ (HN.out.kept hbw5) hbig).mono ?_
  rintro e w6 ⟨a6, rfl, hc6, hb6⟩
  have hbw6 := bt hbw5 hb6
  have hb46 := bt hb5 hb6
  have hb36 := bt hb4 hb46
  go_wp2_with fail
  refine (eqInts a3 a6 n _ _ z _ (N3.out.nums.kept hb36) hc6.nums hbig).mono ?_
  rintro e w7 ⟨rfl, hq7⟩
  have hb7 := bq hq7
  have hbw7 := bt hbw6 hb7
  have hb47 := bt hb46 hb7
  have hb37 := bt hb36 hb7
  have N37 := Lib.hid (N3.out.kept hb37)
  go_wp2_with fail
  refine (markInts2 w2.heap.size a3 n n z 1 _ N37.out hbig (by omega) (by omega)).mono ?_
  rintro e w8 ⟨rfl, -, row, hg8, hr8⟩
  have hs23 := hb3.size
  have hs37 := hb37.size
  have hsw2 := hbw2.size
  have h27 : Below w2.heap.size w2 w7 := bt hb3 hb37
  have h28 : Below w2.heap.size w2 w8 := h27.grown hg8 (by omega) (fun k e => (hr8 k e).2.2)
  have hbw8 : Below w.heap.size w w8 := hbw7.grown hg8 (by omega) (fun k e => by have := (hr8 k e).2.2; omega)
  have NG8 := Lib.hid ((NG.out.kept hb47).far hg8 (row_lt N3.out hr8))
  have NS8 := Lib.hid (NS.out.kept h28)
  clear hg8 hr8 h27
  go_wp2_with fail
  refine (eqInts aG aS lS _ _ f _ NG8.out.nums NS8.out (by omega)).mono ?_
  rintro e w9 ⟨rfl, hq9⟩
  have hb9 := bq hq9
  have hbw9 := bt hbw8 hb9
  have h29 : Below w2.heap.size w2 w9 := h28.trans (hb9.mono h28.size)
  have NG9 := Lib.hid (NG8.out.kept hb9)
  go_wp2_with fail
  refine (markInts2 w3.heap.size aG lS cG f 1 _ NG9.out (by omega) (by omega) (by omega)).mono ?_
  rintro e wa ⟨rfl, nM, row2, hga, hra⟩
  have h2a : Below w2.heap.size w2 wa := h29.grown hga h29.size (fun k e => by have := (hra k e).2.2; omega)
  have hbwa : Below w.heap.size w wa := hbw9.grown hga hbw9.size (fun k e => by have := (hra k e).2.2; omega)
  have NM := Lib.hid nM
  clear nM hga hra
  go_wp2_with fail
  refine (heldInts aG lS cG 1 _ NM.out (by omega) (by omega) (by omega)).mono ?_
  rintro e wb ⟨rfl, hqb⟩
  have hbb := bq hqb
  have hbwb := bt hbwa hbb
  have h2b : Below w2.heap.size w2 wb := h2a.trans (hbb.mono h2a.size)
  go_wp2_with fail
  refine (copyInts a n cap z _ (HN.out.kept hbwb) hbig).mono ?_
  rintro e wc ⟨ac, rfl, hcc, hbc⟩
  have hbwc := bt hbwb hbc
  go_wp2_with fail
  refine (implFare T ac n n z _ hcc.nums hbig).mono ?_
  rintro e wd ⟨R2, hR2, hG2⟩
  obtain ⟨aS2, aH, m2, cS2, cH, f2, eS2, rfl, nS2, nH, -, -, hbd⟩ := mpost_two HR.out hR2 HS.out hG2
  simp only [Ending.returned.injEq, Value.slice.injEq] at eS2
  obtain ⟨rfl, rfl, rfl⟩ := eS2
  have hbwd := bt hbwc hbd
  have h2d : Below w2.heap.size w2 wd := h2b.trans ((bt hbc hbd).mono h2b.size)
  have NH := Lib.hid nH.nums
  have NSd := Lib.hid (nS2.nums.kept h2d)
  have NMd := Lib.hid (((NM.out.kept hbb).kept hbc).kept hbd)
  clear hR2 hG2 nS2 nH
  go_wp2_with fail
  refine (eqInts aH aS lS _ _ f2 _ NH.out NSd.out (by omega)).mono ?_
  rintro e we ⟨rfl, hqe⟩
  have hbe := bq hqe
  have hbwe := bt hbwd hbe
  go_wp2_with fail
  refine (heldInts aG lS cG 1 _ (NMd.out.kept hbe) (by omega) (by omega) (by omega)).mono ?_
  rintro e wf ⟨rfl, hqf⟩
  have hbwf := bt hbwe (bq hqf)
  go_wp2
  go_ret
  exact ⟨rfl, hbwf⟩
end Go.Proofs.Ytnhniglldkmanaa
