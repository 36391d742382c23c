/-
  VmRun of the model.
-/
import Derived.Test.YtjphjnopdlfplaaGreatDoorVmRunBI
import Derived.Test.YtjphjnopdlfplaaGreatDoorVmRunL
namespace Go.Proofs.YtjphjnopdlfplaaGreatDoor
open Go.RowKit
set_option linter.unusedVariables false
set_option linter.unusedSimpArgs false

set_option maxHeartbeats 8000000 in
theorem specVmRun (a : Option Addr) (n cap : Nat) (ds : List Pl) (ns : List (ByteArray × Int)) (na : Option Addr) (nl nc : Nat) (fu : Int) (w : World) (h : PlsN All w a n ds) (hsm : ∀ d ∈ ds, SmallP d) (hl : n ≤ 1048576) (hp : PairsN All w na nl ns) (hnl : nl ≤ 1048576) :
    Calls Tryz.prog 10 #[.slice a n cap, .slice na nl nc, .int .i64 fu] w (VmP ds ns fu w) := by
  have hK := Lib.hid (specVmOk a n cap ds w h hsm hl)
  have hI := Lib.hid (fun W => specInZ fu 0 1000 W)
  have H := Lib.hid h
  have HSM := Lib.hid hsm
  have HP := Lib.hid hp
  clear h hsm hp
  unfold OkVP at hK
  by_cases hok : OkV ds
  rotate_left
  · have HV := Lib.hid (vmRun_no (ns := ns) (fu := fu) (ds := ds) (fun k => hok k.1))
    rw [decide_eq_false hok] at hK
    clear hok
    go_enter Tryz.func10, Tryz.ntmps10
    go_wp2_with fail
    refine hK.out.mono ?_
    rintro e w1 ⟨rfl, d1⟩
    go_wp2
    go_ret3
    unfold VmP
    rw [HV.out]
    exact ⟨rfl, d1⟩
  rw [decide_eq_true hok] at hK
  by_cases hf : 0 ≤ fu ∧ fu ≤ 1000
  rotate_left
  · have HV := Lib.hid (vmRun_no (ns := ns) (fu := fu) (ds := ds) (fun k => hf k.2))
    have z : (decide (0 ≤ fu) && decide (fu ≤ 1000)) = false := by
      rcases Int.lt_or_le fu 0 with c | c
      · rw [decide_eq_false (by omega)]; rfl
      · rw [decide_eq_false (p := fu ≤ 1000) (fun k => hf ⟨c, k⟩), Bool.and_false]
    rw [z] at hI
    clear hok hf z
    go_enter Tryz.func10, Tryz.ntmps10
    go_wp2_with fail
    refine hK.out.mono ?_
    rintro e w1 ⟨rfl, d1⟩
    go_wp2_with fail
    refine (hI.out _).mono ?_
    rintro e w2 ⟨rfl, d2⟩
    subst d2
    go_wp2
    go_ret3
    unfold VmP
    rw [HV.out]
    exact ⟨rfl, d1⟩
  have z : (decide (0 ≤ fu) && decide (fu ≤ 1000)) = true := by rw [decide_eq_true hf.1, decide_eq_true hf.2]; rfl
  rw [z] at hI
  have HV := Lib.hid (vmRun_yes (ns := ns) (fu := fu) (ds := ds) ⟨hok, hf⟩)
  have HOK := Lib.hid hok
  have HF := Lib.hid hf
  clear hok hf z
  go_enter Tryz.func10, Tryz.ntmps10
  go_wp2_with fail
  refine hK.out.mono ?_
  rintro e w1 ⟨rfl, d1⟩
  go_wp2_with fail
  refine (hI.out _).mono ?_
  rintro e w2 ⟨rfl, d2⟩
  subst d2
  have hR := specRun a n cap ds ns na nl nc fu w1 (H.out.kept (same_of_below d1)) HSM.out HOK.out (HP.out.kept (same_of_below d1)) hnl HF.out.1 HF.out.2
  have hR := Lib.hid hR
  have HB1 := Lib.hid d1
  clear d1
  generalize (machV ns ds [] fu).v = x1 at *
  generalize (machV ns ds [] fu).c = x2 at *
  generalize (machV ns ds [] fu).f = x3 at *
  generalize hx4 : fu - x3 = x4 at *
  clear hx4
  go_wp2_with fail
  refine hR.out.mono ?_
  rintro e w3 ⟨rfl, d3⟩
  go_wp2
  go_ret3
  unfold VmP
  rw [HV.out]
  exact ⟨rfl, HB1.out.trans (d3.mono HB1.out.size)⟩
end Go.Proofs.YtjphjnopdlfplaaGreatDoor
