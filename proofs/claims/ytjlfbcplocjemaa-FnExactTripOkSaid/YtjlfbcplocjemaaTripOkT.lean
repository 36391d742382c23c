/-
  Whether a trip can be made in a net: TripOk of the model and of the program; and how large a trip is, behind something else.
-/
import Derived.Test.YtjlfbcplocjemaaTripOkS
import Derived.Test.YtjlfbcplocjemaaTripOkI
namespace Go.Proofs.Ytjlfbcplocjemaa
open Go.RowKit
set_option linter.unusedVariables false
set_option linter.unusedSimpArgs false

set_option maxHeartbeats 2000000 in
theorem szTripL (lf : Int) (a : Option Addr) (len cap : Nat) (ss : List ByteArray) (f : ByteArray) (n : Int) (w : World) (l0 : 0 ≤ lf) (l1 : lf ≤ 1048576) (h : Strs w a len ss) (hl : (len : Int) ≤ 9223372036854775807) (hss : ∀ s ∈ ss, s.size ≤ 9223372036854775807) (hf : f.size ≤ 9223372036854775807) :
    Calls Try.prog 11 #[.agg #[.slice a len cap, .string f, .int .i64 n], .int .i64 lf] w fun e w' => ∃ r : Int, -1 ≤ r ∧ r ≤ 1048576 ∧ e = .returned (.int .i64 r) ∧ Hid (0 ≤ r → (total ss : Int) + ss.length ≤ 1048576 ∧ f.size ≤ 1048576) ∧ Below w.heap.size w w' := by
  go_enter Try.func11, Try.ntmps11
  go_wp2_with fail
  refine (szStrs a len cap ss lf _ (h.kept ((Below.refl _ _).alloc (Nat.le_refl _) _)) hl l0 l1 hss).mono ?_
  rintro e w' ⟨r, r0, r1, rfl, hr, rfl⟩
  rcases Int.lt_or_le r 0 with c | c
  · have g0 : decide (r < 0) = true := by simp; omega
    go_wp2
    go_ret
    exact ⟨-1, by omega, by omega, rfl, fun h => by omega, (Below.refl _ _).alloc (Nat.le_refl _) _⟩
  · have g0 : decide (r < 0) = false := by simp; omega
    have hrr := hr.out c
    have hw : IntKind.i64.wrap (r - (f.size : Int)) = r - f.size := IntWalk.i64_in _ (by omega)
    have HR : Hid ((total ss : Int) + ss.length ≤ 1048576) := by show _ ≤ _; omega
    clear hrr hr
    rcases Int.lt_or_le (r - f.size) 0 with c2 | c2
    · have g1 : decide (r - (f.size : Int) < 0) = true := by simp; omega
      go_wp2
      go_ret
      exact ⟨-1, by omega, by omega, rfl, fun h => by omega, (Below.refl _ _).alloc (Nat.le_refl _) _⟩
    · have g1 : decide (r - (f.size : Int) < 0) = false := by simp; omega
      go_wp2
      go_ret
      exact ⟨r - f.size, by omega, by omega, rfl, fun _ => ⟨HR.out, by omega⟩, (Below.refl _ _).alloc (Nat.le_refl _) _⟩
set_option maxRecDepth 100000 in
set_option maxHeartbeats 8000000 in
theorem tripS (a : Option Addr) (n cap : Nat) (ds : Nat → LegD) (ps : Nat → LegP) (ta : Option Addr) (tcap : Nat) (ss : List ByteArray) (f : ByteArray) (m : Int) (w : World) (h : Legs w a n ds ps) (hfit : ∀ i, i < n → Fits (ds i)) (hl : n ≤ 1048576) (hs : Strs w ta ss.length ss) (hsl : ss.length ≤ 1048576) (hss : ∀ i, i < ss.length → (legAt ss i).size ≤ 1048576) (hf : f.size ≤ 1048576) :
    Calls Try.prog 7 #[.slice a n cap, .agg #[.slice ta ss.length tcap, .string f, .int .i64 m]] w (OkPost (TripD n ds ss f m) (Below w.heap.size w)) := by
  have HNet : Hid (∀ W, Legs W a n ds ps → Calls Try.prog 9 #[.slice a n cap] W (OkPost (NetD n ds) (Below W.heap.size W))) := fun W q => netS a n cap ds ps W q hfit hl
  have HWay : Hid (∀ W, Legs W a n ds ps → Strs W ta ss.length ss → Calls Try.prog 21 #[.slice a n cap, .agg #[.slice ta ss.length tcap, .string f, .int .i64 m]] W (OkPost (FormOk ss f m ∧ LegsGo ds n ss ss.length) (Below W.heap.size W))) := fun W q q' => waysS a n cap ds ps ta tcap ss f m W q hl q' hsl hss hf
  have HS := Lib.hid hs
  have H := Lib.hid h
  have hbA : Below w.heap.size w (w.alloc (.cells #[.slice ta ss.length tcap, .string f, .int .i64 m] 26)) := (Below.refl _ _).alloc (Nat.le_refl _) _
  have HbA := Lib.hid hbA
  have HA := Lib.hid (heap_alloc_new w (.cells #[.slice ta ss.length tcap, .string f, .int .i64 m] 26))
  clear hs h hss hfit hbA
  unfold TripD
  go_enter Try.func7, Try.ntmps7
  go_wp2_with fail
  refine (HNet.out _ (H.out.kept HbA.out)).mono ?_
  rintro e w1 ⟨b1, rfl, hb1, d1⟩
  have HB1 := Lib.hid (bt HbA.out d1)
  have HX1 := Lib.hid ((d1.block _ (by simp)).trans HA.out)
  clear d1
  cases b1 with
  | false =>
    have hno : Hid (¬ (NetD n ds ∧ FormOk ss f m ∧ LegsGo ds n ss ss.length)) := fun q => by have := hb1.out.2 q.1; cases this
    go_wp2
    go_ret
    exact ⟨false, rfl, ⟨fun q => (by cases q), fun q => absurd q hno.out⟩, HB1.out⟩
  | true =>
    have HND := Lib.hid (hb1.out.1 rfl)
    obtain ⟨x0, x1, x2⟩ := row3 HX1.out
    clear hb1
    go_wp2_with fail
    refine (HWay.out _ (H.out.kept HB1.out) (HS.out.kept HB1.out)).mono ?_
    rintro e w2 ⟨b2, rfl, hb2, d2⟩
    have HB2 := Lib.hid (bt HB1.out d2)
    clear d2 x0 x1 x2
    go_wp2
    go_ret
    exact ⟨b2, rfl, ⟨fun q => ⟨HND.out, hb2.out.1 q⟩, fun q => hb2.out.2 q.2⟩, HB2.out⟩
set_option maxRecDepth 100000 in
set_option maxHeartbeats 8000000 in
theorem tripI (a : Option Addr) (n cap : Nat) (ds : Nat → LegD) (ps : Nat → LegP) (ta : Option Addr) (tcap : Nat) (ss : List ByteArray) (f : ByteArray) (m : Int) (w : World) (h : Legs w a n ds ps) (hfit : ∀ i, i < n → Fits (ds i)) (hc : ∀ i, i < n → (ds i).nS ≤ (ps i).cS) (hlc : n ≤ cap) (hcm : cap ≤ 1048576) (hl : n ≤ 1048576) (hs : Strs w ta ss.length ss) (hsc : ss.length ≤ tcap) (hsl : ss.length ≤ 1048576) (hss : ∀ i, i < ss.length → (legAt ss i).size ≤ 1048576) (hf : f.size ≤ 1048576) :
    Calls Try.prog 6 #[.slice a n cap, .agg #[.slice ta ss.length tcap, .string f, .int .i64 m]] w (OkPost (TripD n ds ss f m) (Below w.heap.size w)) := by
  have HLg : Hid (∀ W, Legs W a n ds ps → Strs W ta ss.length ss → Calls Try.prog 20 #[.slice a n cap, .agg #[.slice ta ss.length tcap, .string f, .int .i64 m]] W (LegsPost (TripD n ds ss f m) W)) := fun W q q' => legsI a n cap ds ps ta tcap ss f m W q hfit hc hlc hcm hl q' hsc hsl hss hf
  have HS := Lib.hid hs
  have H := Lib.hid h
  have hbA : Below w.heap.size w (w.alloc (.cells #[.slice ta ss.length tcap, .string f, .int .i64 m] 26)) := (Below.refl _ _).alloc (Nat.le_refl _) _
  have HbA := Lib.hid hbA
  obtain ⟨x0, x1, x2⟩ := row3 (heap_alloc_new w (.cells #[.slice ta ss.length tcap, .string f, .int .i64 m] 26))
  clear hs h hss hfit hc hbA
  go_enter Try.func6, Try.ntmps6
  go_wp2_with fail
  refine (HLg.out _ (H.out.kept HbA.out) (HS.out.kept HbA.out)).mono ?_
  rintro e w1 ⟨v, b1, rfl, hb1, d1⟩
  have HB1 := Lib.hid (bt HbA.out d1)
  clear d1 x0 x1 x2
  go_wp2
  go_ret
  exact ⟨b1, rfl, hb1, HB1.out⟩
end Go.Proofs.Ytjlfbcplocjemaa
