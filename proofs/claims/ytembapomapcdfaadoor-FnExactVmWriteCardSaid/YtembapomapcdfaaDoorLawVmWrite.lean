/-
  The law FnExactVmWrite's own walk.
-/
import Derived.Test.YtembapomapcdfaaDoorVmOkB
import Derived.Test.YtembapomapcdfaaDoorOpenIns
namespace Go.Proofs.YtembapomapcdfaaDoor
open Go.RowKit
set_option linter.unusedVariables false
set_option linter.unusedSimpArgs false

set_option maxHeartbeats 4000000 in
theorem exactVmWrite (a : Option Addr) (n cap : Nat) (ds : List Pl) (w : World) (w0 : IsPls w a n cap ds) (hL : Laid w) :
    Calls Tryd.prog 9 #[.slice a n cap] w fun e w' => e = .returned (.bool true) ∧ Below w.heap.size w w' := by
  obtain ⟨hlc, hcm, h, hw⟩ := w0
  have H := Lib.hid h
  have HL := Lib.hid hL
  have HN : Hid (n = ds.length) := h.1
  have hS := Lib.hid (szPls a n cap ds 1048576 w h hw (by omega) (by omega) (by omega))
  clear h hw hL hlc hcm
  go_enter Tryd.func9, Tryd.ntmps9
  go_wp2_with fail
  refine hS.out.mono ?_
  rintro e w1 ⟨r, r0, r1, rfl, hr, d1⟩
  have B1 := Lib.hid d1
  clear d1
  rcases Int.lt_or_le r 0 with c | c
  · have g0 : decide (r < 0) = true := decide_eq_true c
    go_wp2
    go_ret
    exact ⟨rfl, B1.out⟩
  have g0 : decide (r < 0) = false := decide_eq_false (by omega)
  have hn : n ≤ 1048576 := by have := (hr.out c).1; have := HN.out; omega
  have HS := Lib.hid (hr.out c).2
  clear hr
  go_wp2_with fail
  refine (toPls ds HS.out a n cap w1 (H.out.kept (same_of_below B1.out)) hn).mono ?_
  rintro e w2 ⟨g2, hg2, rfl, h2, d2⟩
  have B2 := Lib.hid (B1.out.trans (d2.mono B1.out.size))
  have hq2 := Lib.hid (specVmWrite _ _ _ ds w2 (h2.mono (N' := All) (fun _ _ => trivial)) HS.out (by have := HN.out; omega) : Calls Tryd.prog _ #[.slice (some ⟨g2, 0, none⟩) ds.length ds.length] w2 _)
  clear h2 d2 hg2
  unfold WriteVP at hq2
  go_wp2_with fail
  refine hq2.out.mono ?_
  rintro e w3 ⟨rfl, d3⟩
  have B3 := Lib.hid (B2.out.trans (d3.mono B2.out.size))
  clear d3
  go_wp2_with fail
  refine (toPls ds HS.out a n cap w3 (H.out.kept (same_of_below B3.out)) hn).mono ?_
  rintro e w4 ⟨g4, hg4, rfl, h4, d4⟩
  have B4 := Lib.hid (B3.out.trans (d4.mono B3.out.size))
  have H4 := Lib.hid (h4.mono (N' := All) (fun _ _ => trivial))
  have hq4 := Lib.hid (implVmWrite _ _ _ ds w4 H4.out HS.out (by have := HN.out; omega) (laid_stays HL.out B4.out) : Calls Tryd.prog _ #[.slice (some ⟨g4, 0, none⟩) ds.length ds.length] w4 _)
  clear h4 d4 hg4
  unfold WriteVP at hq4
  generalize writeV ds = bv at *
  go_wp2_with fail
  refine hq4.out.mono ?_
  rintro e w5 ⟨rfl, d5⟩
  have B5 := Lib.hid (B4.out.trans (d5.mono B4.out.size))
  have H5 := Lib.hid (H4.out.kept (same_of_below d5))
  clear d5
  go_wp2_with fail
  refine (toPls ds HS.out a n cap w5 (H.out.kept (same_of_below B5.out)) hn).mono ?_
  rintro e w6 ⟨g6, hg6, rfl, h6, d6⟩
  have B6 := Lib.hid (B5.out.trans (d6.mono B5.out.size))
  have hq6 := Lib.hid (eqPls _ _ _ ds.length ds.length ds w6 (H5.out.kept (same_of_below d6)) (h6.mono (N' := All) (fun _ _ => trivial)) HS.out (by have := HN.out; omega) : Calls Tryd.prog _ #[.slice (some ⟨g4, 0, none⟩) ds.length ds.length, .slice (some ⟨g6, 0, none⟩) ds.length ds.length] w6 _)
  clear h6 d6 hg6
  go_wp2_with fail
  refine hq6.out.mono ?_
  rintro e w7 ⟨rfl, d7⟩
  go_wp2
  go_ret
  exact ⟨rfl, B6.out.trans (d7.mono B6.out.size)⟩
end Go.Proofs.YtembapomapcdfaaDoor
