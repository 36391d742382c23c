/-
  VmRun of the program.
-/
import Derived.Test.YtjphjnopdlfplaaGreatDoorJ52
import Derived.Test.YtjphjnopdlfplaaGreatDoorJ34
import Derived.Test.YtjphjnopdlfplaaGreatDoorJ43
namespace Go.Proofs.YtjphjnopdlfplaaGreatDoor
open Go.RowKit
set_option linter.unusedVariables false
set_option linter.unusedSimpArgs false

def VmP (ds : List Pl) (ns : List (ByteArray × Int)) (fu : Int) (w : World) (e : Ending) (w' : World) : Prop := e = .returned (.tuple #[.int .i64 (vmRunV ds ns fu).1, .int .i64 (vmRunV ds ns fu).2.1, .int .i64 (vmRunV ds ns fu).2.2]) ∧ Below w.heap.size w w'
theorem vmRun_no {ds : List Pl} {ns : List (ByteArray × Int)} {fu : Int} (h : ¬ (OkV ds ∧ 0 ≤ fu ∧ fu ≤ 1000)) : vmRunV ds ns fu = (0, 4, 0) := by unfold vmRunV; rw [if_neg h]
theorem vmRun_yes {ds : List Pl} {ns : List (ByteArray × Int)} {fu : Int} (h : OkV ds ∧ 0 ≤ fu ∧ fu ≤ 1000) : vmRunV ds ns fu = ((machV ns ds [] fu).v, (machV ns ds [] fu).c, fu - (machV ns ds [] fu).f) := by unfold vmRunV; rw [if_pos h]
theorem PlsN.old {w w' : World} {a : Option Addr} {n mb : Nat} {ds : List Pl} (h : PlsN All w a n ds) (hB : Below w.heap.size w w') (he : w.heap.size ≤ mb) : PlsN (fun b => b ≠ mb) w' a n ds :=
  (h.lt.kept (same_lt hB (Nat.le_refl _))).mono (fun b hb => by show b ≠ mb; omega)
theorem mach_new (w : World) (na : Option Addr) (nl nc : Nat) (fu : Int) (ty : TypeId) : Mach (w.alloc (.cells #[.slice na nl nc, .int .i64 fu, .slice none 0 0, .int .i64 0] ty)) w.heap.size na nl nc fu none 0 0 0 := by
  have h : (w.alloc (.cells #[.slice na nl nc, .int .i64 fu, .slice none 0 0, .int .i64 0] ty)).heap[w.heap.size]? = some (.cells #[.slice na nl nc, .int .i64 fu, .slice none 0 0, .int .i64 0] ty (0, 0)) := heap_alloc_new w _
  exact ⟨⟨(Array.getElem?_eq_some_iff.1 h).1, by rw [Lib.cell_of_heap h]; rfl, by rw [Lib.cell_of_heap h]; rfl, Lib.frozen_of_heap h 1⟩, by rw [Lib.cell_of_heap h]; rfl, by rw [Lib.cell_of_heap h]; rfl, Lib.frozen_of_heap h 2, Lib.frozen_of_heap h 3⟩
set_option maxHeartbeats 8000000 in
theorem implVmRun (a : Option Addr) (n cap : Nat) (ds : List Pl) (ns : List (ByteArray × Int)) (na : Option Addr) (nl nc : Nat) (fu : Int) (w : World) (h : PlsN All w a n ds) (hsm : ∀ d ∈ ds, SmallP d) (hl : n ≤ 1048576) (hp : PairsN All w na nl ns) (hnl : nl ≤ 1048576) (hL : Laid w) :
    Calls Tryz.prog 13 #[.slice a n cap, .slice na nl nc, .int .i64 fu] w (VmP ds ns fu w) := by
  have hK := Lib.hid (implVmOk a n cap ds w h hsm hl hL)
  have hI := Lib.hid (fun W => implFuelOk fu W)
  have H := Lib.hid h
  have HSM := Lib.hid hsm
  have HP := Lib.hid hp
  clear h hsm hp hL
  unfold OkVP at hK
  by_cases hok : OkV ds
  rotate_left
  · have HV := Lib.hid (vmRun_no (ns := ns) (fu := fu) (ds := ds) (fun k => hok k.1))
    rw [decide_eq_false hok] at hK
    clear hok
    go_enter Tryz.func13, Tryz.ntmps13
    go_wp2_with fail
    refine hK.out.mono ?_
    rintro e w1 ⟨rfl, d1⟩
    go_wp2
    go_ret3
    unfold VmP
    rw [HV.out]
    exact ⟨rfl, d1⟩
  rw [decide_eq_true hok] at hK
  by_cases hf : 0 ≤ fu ∧ fu ≤ 1000
  rotate_left
  · have HV := Lib.hid (vmRun_no (ns := ns) (fu := fu) (ds := ds) (fun k => hf k.2))
    have z : (decide (0 ≤ fu) && decide (fu ≤ 1000)) = false := by
      rcases Int.lt_or_le fu 0 with c | c
      · rw [decide_eq_false (by omega)]; rfl
      · rw [decide_eq_false (p := fu ≤ 1000) (fun k => hf ⟨c, k⟩), Bool.and_false]
    rw [z] at hI
    clear hok hf z
    go_enter Tryz.func13, Tryz.ntmps13
    go_wp2_with fail
    refine hK.out.mono ?_
    rintro e w1 ⟨rfl, d1⟩
    go_wp2_with fail
    refine (hI.out _).mono ?_
    rintro e w2 ⟨rfl, d2⟩
    subst d2
    go_wp2
    go_ret3
    unfold VmP
    rw [HV.out]
    exact ⟨rfl, d1⟩
  have z : (decide (0 ≤ fu) && decide (fu ≤ 1000)) = true := by rw [decide_eq_true hf.1, decide_eq_true hf.2]; rfl
  rw [z] at hI
  have HV := Lib.hid (vmRun_yes (ns := ns) (fu := fu) (ds := ds) ⟨hok, hf⟩)
  have HOK := Lib.hid hok
  have HF := Lib.hid hf
  have HS := Lib.hid (mach_sok ns hok hf.1)
  clear hok hf z
  go_enter Tryz.func13, Tryz.ntmps13
  go_wp2_with fail
  refine hK.out.mono ?_
  rintro e w1 ⟨rfl, d1⟩
  go_wp2_with fail
  refine (hI.out _).mono ?_
  rintro e w2 ⟨rfl, d2⟩
  subst d2
  have HB1 := Lib.hid d1
  have hX : Below w1.heap.size w1 (w1.alloc (.cells #[.slice na nl nc, .int .i64 fu, .slice none 0 0, .int .i64 0] 75)) := (Below.refl _ _).alloc (Nat.le_refl _) _
  have hBX := d1.trans (hX.mono d1.size)
  have HBX := Lib.hid hBX
  have hR := implRun a n cap ds ns na nl nc fu w1.heap.size _ (H.out.old hBX d1.size) HSM.out HOK.out (HP.out.old hBX d1.size) hnl HF.out.1 HF.out.2 (mach_new w1 na nl nc fu 75) _ rfl
  have hR := Lib.hid hR
  have hs := HS.out.2.2.1
  have hff := HF.out
  have HD1 := d1.size
  clear d1 hX hBX HS
  unfold RunP at hR
  generalize machV ns ds [] fu = mv at *
  obtain ⟨x1, x2, x3⟩ := mv
  dsimp only at *
  have ew : IntKind.i64.wrap (fu - x3) = fu - x3 := IntWalk.i64_in _ (by omega)
  go_wp2_with fail
  refine hR.out.mono ?_
  rintro e w3 ⟨rfl, hev, hg⟩
  have y1 := hev.out.2.2.1
  have HG3 := Lib.hid hg.out
  clear hev hg hR hs hff
  go_wp2_with fail
  go_quiet (fail)
  go_wp2
  go_ret3
  unfold VmP
  rw [HV.out]
  exact ⟨rfl, belowN (HBX.out.grown HG3.out HBX.out.size (fun k e => by cases e; exact HD1)) nq⟩
end Go.Proofs.YtjphjnopdlfplaaGreatDoor
