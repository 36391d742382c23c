/-
  A drawn program, names and fuel (DrawVmRun).
-/
import Derived.Test.YtjphjnopdlfplaaGreatDoorBentCode
import Derived.Test.YtjphjnopdlfplaaGreatDoorDrawPairs
import Derived.Test.YtjphjnopdlfplaaGreatDoorJ4
namespace Go.Proofs.YtjphjnopdlfplaaGreatDoor
open Go.RowKit
set_option linter.unusedVariables false
set_option linter.unusedSimpArgs false

def DrawnVR (w : World) (e : Ending) (w' : World) : Prop := ∃ (a : Option Addr) (n c : Nat) (ds : List Pl) (na : Option Addr) (nl nc : Nat) (ns : List (ByteArray × Int)) (fu : Int), e = .returned (.tuple #[.slice a n c, .slice na nl nc, .int .i64 fu]) ∧ n = ds.length ∧ CodeW w.heap.size w' (.slice a n c) ds ∧ SmW ds 101 ∧ PairsN All w' na nl ns ∧ nl ≤ 6 ∧ (-1 ≤ fu ∧ fu ≤ 1001) ∧ Below w.heap.size w w'
set_option maxRecDepth 100000 in
set_option maxHeartbeats 16000000 in
theorem drawVmRun (a0 : Option Addr) (len cap : Nat) (z : List Int) (w : World) (w0 : IsRow .u8 w a0 len cap z) :
    Calls Tryz.prog 25 #[.slice a0 len cap] w (DrawnVR w) := by
  have HO := Lib.hid (opened a0 len cap z w w0)
  clear w0
  go_enter Tryz.func25, Tryz.ntmps25
  go_wp2_with fail
  refine HO.out.mono ?_
  rintro e w1 ⟨rfl, hr1, hb1, hs1⟩
  have HR1 := Lib.hid hr1
  have HB1 := Lib.hid hb1
  have hb0 : Hid (w.heap.size < w1.heap.size) := Lib.hid hr1.le.2
  clear hr1 hb1 HO hs1
  go_wp2_with fail
  refine (drawCode w.heap.size 0 w1 HR1.out (by omega)).mono ?_
  rintro e w2 ⟨a, n, c, ds, p2, rfl, hn, hc, hs, hr2, hp2, hg2⟩
  have HN := Lib.hid hn
  have HC2 := Lib.hid hc
  have HS := Lib.hid hs
  have HR2 := Lib.hid hr2
  have HG2 := Lib.hid hg2
  clear hn hc hs hr2 hg2 HR1
  go_wp2_with fail
  refine (pick w.heap.size w.heap.size p2 6 _ HR2.out (by omega) (by omega) (by omega)).mono ?_
  rintro e w3 ⟨x3, l3, u3, rfl, hr3, hg3, -⟩
  have HR3 := Lib.hid hr3
  have HC3 : Hid (CodeW w1.heap.size w3 (.slice a n c) ds) := Lib.hid (HC2.out.grown hg3 (fun k e => by cases e; exact hb0.out))
  have HG3 : Hid (w1.grownBy w3 (some w.heap.size)) := Lib.hid (grown_trans HG2.out hg3)
  clear hr3 hg3 HR2 HC2 HG2
  cases hx3 : (x3 == 0) with
  | false =>
    have HX3 := Lib.hid hx3
    have HS1 := Lib.hid HS.out.up
    have hbB : w.heap.size < w1.heap.size := hb0.out
    go_wp2_with fail
    refine (drawPairs w.heap.size (p2 + 1) _ HR3.out (by omega)).mono ?_
    rintro e w7 ⟨na, nl, nc, ns, p7, rfl, hp7, hn6, hr7, hpq, hg7⟩
    have HR7 := Lib.hid hr7
    have HP7 := Lib.hid (hp7.mono (N' := fun x => w3.heap.size ≤ x) (fun x hx => hx))
    have HC7 : Hid (CodeW w1.heap.size w7 (.slice a n c) ds) := Lib.hid (HC3.out.grown hg7 (fun k e => by cases e; exact hbB))
    have HG7 : Hid (w1.grownBy w7 (some w.heap.size)) := Lib.hid (grown_trans HG3.out hg7)
    clear hp7 hr7 hg7 HR3 HC3
    go_wp2_with fail
    refine (drawFuel w.heap.size p7 _ HR7.out (by omega)).mono ?_
    rintro e w8 ⟨fu, f0, f1, rfl, -, hg8⟩
    have hx7 : w.heap.size < w3.heap.size := Nat.lt_of_lt_of_le hbB HG3.out.size
    have HP8 : Hid (PairsN All w8 na nl ns) := Lib.hid ((HP7.out.kept (same_grown hg8 (fun y hy => by have : w3.heap.size ≤ y := hy; omega))).mono (fun _ _ => trivial))
    have HC8 : Hid (CodeW w1.heap.size w8 (.slice a n c) ds) := Lib.hid (HC7.out.grown hg8 (fun k e => by cases e; exact hbB))
    have HB8 : Hid (Below w.heap.size w w8) := Lib.hid (HB1.out.grown (grown_trans HG7.out hg8) (Nat.le_of_lt hbB) (fun k e => by cases e; exact Nat.le_refl _))
    clear hg8 HP7 HC7 HG7
    go_wp2
    go_ret3
    exact ⟨a, n, c, ds, na, nl, nc, ns, fu, rfl, HN.out, HC8.out.mono (Nat.le_of_lt hbB), HS1.out, HP8.out, hn6, ⟨f0, f1⟩, HB8.out⟩

  | true =>
    have HX3 := Lib.hid hx3
    go_wp2_with fail
    refine (bentCode w.heap.size (p2 + 1) w1.heap.size a n c ds w3 HR3.out (by omega) HG3.out.size hb0.out HC3.out HN.out HS.out).mono ?_
    rintro e w4 ⟨a4, n4, c4, d4, p4, rfl, hn4, hc4, hs4, hr4, hp4, hg4⟩
    have HN4 := Lib.hid hn4
    have HC4 := Lib.hid hc4
    have HS4 := Lib.hid hs4
    have HR4 := Lib.hid hr4
    have HG4 : Hid (w1.grownBy w4 (some w.heap.size)) := Lib.hid (grown_trans HG3.out hg4)
    clear hn4 hc4 hs4 hr4 hg4 HR3 HC3 HG3
    have hbB : w.heap.size < w1.heap.size := hb0.out
    go_wp2_with fail
    refine (drawPairs w.heap.size p4 _ HR4.out (by omega)).mono ?_
    rintro e w7 ⟨na, nl, nc, ns, p7, rfl, hp7, hn6, hr7, hpq, hg7⟩
    have HR7 := Lib.hid hr7
    have HP7 := Lib.hid (hp7.mono (N' := fun x => w4.heap.size ≤ x) (fun x hx => hx))
    have HC7 : Hid (CodeW w1.heap.size w7 (.slice a4 n4 c4) d4) := Lib.hid (HC4.out.grown hg7 (fun k e => by cases e; exact hbB))
    have HG7 : Hid (w1.grownBy w7 (some w.heap.size)) := Lib.hid (grown_trans HG4.out hg7)
    clear hp7 hr7 hg7 HR4 HC4
    go_wp2_with fail
    refine (drawFuel w.heap.size p7 _ HR7.out (by omega)).mono ?_
    rintro e w8 ⟨fu, f0, f1, rfl, -, hg8⟩
    have hx7 : w.heap.size < w4.heap.size := Nat.lt_of_lt_of_le hbB HG4.out.size
    have HP8 : Hid (PairsN All w8 na nl ns) := Lib.hid ((HP7.out.kept (same_grown hg8 (fun y hy => by have : w4.heap.size ≤ y := hy; omega))).mono (fun _ _ => trivial))
    have HC8 : Hid (CodeW w1.heap.size w8 (.slice a4 n4 c4) d4) := Lib.hid (HC7.out.grown hg8 (fun k e => by cases e; exact hbB))
    have HB8 : Hid (Below w.heap.size w w8) := Lib.hid (HB1.out.grown (grown_trans HG7.out hg8) (Nat.le_of_lt hbB) (fun k e => by cases e; exact Nat.le_refl _))
    clear hg8 HP7 HC7 HG7
    go_wp2
    go_ret3
    exact ⟨a4, n4, c4, d4, na, nl, nc, ns, fu, rfl, HN4.out, HC8.out.mono (Nat.le_of_lt hbB), HS4.out, HP8.out, hn6, ⟨f0, f1⟩, HB8.out⟩

end Go.Proofs.YtjphjnopdlfplaaGreatDoor
