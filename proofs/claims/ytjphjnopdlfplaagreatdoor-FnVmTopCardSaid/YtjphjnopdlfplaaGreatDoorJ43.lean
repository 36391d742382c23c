/-
  Names and their numbers in memory: how many, a copy, whether two lists are alike; how they come in.
  RuleOf of both.
-/
import Derived.Test.YtjphjnopdlfplaaGreatDoorJ28
import Derived.Test.YtjphjnopdlfplaaGreatDoorMarksLaw
import Derived.Test.YtjphjnopdlfplaaGreatDoorOpenRule
import Derived.Test.YtjphjnopdlfplaaGreatDoorJ15
import Derived.Test.YtjphjnopdlfplaaGreatDoorJ33
namespace Go.Proofs.YtjphjnopdlfplaaGreatDoor
open Go.RowKit Go.ChangeShapes Go.WideShapes Go.ChangeAt
set_option linter.unusedVariables false
set_option linter.unusedSimpArgs false

theorem PairsN.row {N : Nat → Prop} {w : World} {a : Option Addr} {len : Nat} {ns : List (ByteArray × Int)} (h : PairsN N w a len ns) (h0 : 0 < len) : ∃ b off, a = some ⟨b, off, none⟩ ∧ b < w.heap.size ∧ ∀ i, i < len → w.cell? ⟨b, off + i * 2, none⟩ = some (.string (ns.getD i (⟨#[]⟩, 0)).1) ∧ w.cell? ⟨b, off + i * 2 + 1, none⟩ = some (.int .i64 (ns.getD i (⟨#[]⟩, 0)).2) := by
  obtain ⟨-, h2 | ⟨b, off, k1, -, k3, k4⟩⟩ := h
  · omega
  · exact ⟨b, off, k1, k3, k4⟩

end Go.Proofs.YtjphjnopdlfplaaGreatDoor

namespace Go.Proofs.YtjphjnopdlfplaaGreatDoor
open Go.RowKit
set_option linter.unusedVariables false
set_option linter.unusedSimpArgs false

def ruleOfV (t : Tr) (ns : List (ByteArray × Int)) (fu : Int) : Int × Int := if okR t ∧ 0 ≤ fu ∧ fu ≤ 1000 then ((evalT ns t fu).v, (evalT ns t fu).c) else (0, 4)
theorem PairsN.old {w w' : World} {a : Option Addr} {len eb : Nat} {ns : List (ByteArray × Int)} (h : PairsN All w a len ns) (hB : Below w.heap.size w w') (he : w.heap.size ≤ eb) : PairsN (fun b => b ≠ eb) w' a len ns := by
  obtain ⟨h1, h2 | ⟨b, off, k1, k2, k3, k4⟩⟩ := h
  · exact ⟨h1, Or.inl h2⟩
  · exact PairsN.kept (w := w) ⟨h1, Or.inr ⟨b, off, k1, by show b ≠ eb; omega, k3, k4⟩⟩ (same_of_below hB)
theorem ev_new (w : World) (na : Option Addr) (nl nc : Nat) (fu : Int) (ty : TypeId) : Ev (w.alloc (.cells #[.slice na nl nc, .int .i64 fu] ty)) w.heap.size na nl nc fu := by
  have h : (w.alloc (.cells #[.slice na nl nc, .int .i64 fu] ty)).heap[w.heap.size]? = some (.cells #[.slice na nl nc, .int .i64 fu] ty (0, 0)) := heap_alloc_new w _
  exact ⟨(Array.getElem?_eq_some_iff.1 h).1, by rw [Lib.cell_of_heap h]; rfl, by rw [Lib.cell_of_heap h]; rfl, Lib.frozen_of_heap h 1⟩
set_option maxHeartbeats 4000000 in
theorem implFuelOk (fu : Int) (w : World) : Calls Tryz.prog 38 #[.int .i64 fu] w fun e w' => e = .returned (.bool (decide (0 ≤ fu) && decide (fu ≤ 1000))) ∧ w = w' := by
  rcases Int.lt_or_le fu 0 with c | c
  · have z : decide (0 ≤ fu) = false := decide_eq_false (by omega)
    rw [z]
    go_enter Tryz.func38, Tryz.ntmps38
    go_wp2
    go_ret
    exact ⟨rfl, rfl⟩
  · have z : decide (0 ≤ fu) = true := decide_eq_true c
    rw [z]
    generalize hb : decide (fu ≤ 1000) = b at *
    go_enter Tryz.func38, Tryz.ntmps38
    go_wp2
    go_ret
    exact ⟨rfl, rfl⟩
set_option maxHeartbeats 8000000 in
theorem implRuleOf (t : Tr) (f : Fld) (ns : List (ByteArray × Int)) (na : Option Addr) (nl nc : Nat) (fu : Int) (w : World) (h : TrF All w t f) (hs : szT t ≤ 1048576) (hp : PairsN All w na nl ns) (hnl : nl ≤ 1048576) (hL : Laid w) :
    Calls Tryz.prog 22 #[f.val, .slice na nl nc, .int .i64 fu] w fun e w' => e = .returned (.tuple #[.int .i64 (ruleOfV t ns fu).1, .int .i64 (ruleOfV t ns fu).2]) ∧ Below w.heap.size w w' := by
  have hA : Below w.heap.size w (w.alloc (RBox f)) := (Below.refl _ _).alloc (Nat.le_refl _) _
  have hArg : (w.alloc (RBox f)).heap[w.heap.size]? = some (RBox f) := heap_alloc_new w _
  have hK := Lib.hid (implRuleOk (h.kept (same_of_below hA)) hs (laid_stays hL hA))
  have hI := Lib.hid (fun W => implFuelOk fu W)
  have H := Lib.hid h
  have HA := Lib.hid hA
  have HArg := Lib.hid hArg
  have HP := Lib.hid hp
  clear h hA hs hArg hp
  unfold Fld.val
  by_cases hok : okR t
  rotate_left
  · rw [show ruleOfV t ns fu = (0, 4) from by rw [ruleOfV, if_neg (fun k => hok k.1)]]
    rw [decide_eq_false hok] at hK
    clear hok
    go_enter Tryz.func22, Tryz.ntmps22
    go_wp2_with fail
    refine hK.out.mono ?_
    rintro e w1 ⟨rfl, d1⟩
    go_wp2
    go_ret2
    exact ⟨rfl, HA.out.trans (d1.mono HA.out.size)⟩
  rw [decide_eq_true hok] at hK
  by_cases hf : 0 ≤ fu ∧ fu ≤ 1000
  rotate_left
  · rw [show ruleOfV t ns fu = (0, 4) from by rw [ruleOfV, if_neg (fun k => hf k.2)]]
    have z : (decide (0 ≤ fu) && decide (fu ≤ 1000)) = false := by
      rcases Int.lt_or_le fu 0 with c | c
      · rw [decide_eq_false (by omega)]; rfl
      · rw [decide_eq_false (p := fu ≤ 1000) (fun k => hf ⟨c, k⟩), Bool.and_false]
    rw [z] at hI
    clear hok hf z
    go_enter Tryz.func22, Tryz.ntmps22
    go_wp2_with fail
    refine hK.out.mono ?_
    rintro e w1 ⟨rfl, d1⟩
    go_wp2_with fail
    refine (hI.out _).mono ?_
    rintro e w2 ⟨rfl, d2⟩
    subst d2
    go_wp2
    go_ret2
    exact ⟨rfl, HA.out.trans (d1.mono HA.out.size)⟩
  have z : (decide (0 ≤ fu) && decide (fu ≤ 1000)) = true := by rw [decide_eq_true hf.1, decide_eq_true hf.2]; rfl
  rw [z] at hI
  have HV : Hid (ruleOfV t ns fu = ((evalT ns t fu).v, (evalT ns t fu).c)) := by show _ = _; rw [ruleOfV, if_pos ⟨hok, hf⟩]
  rw [HV.out]
  have HOK : Hid (OkP t) := okR_P hok.1
  have HF := Lib.hid hf
  clear hok hf z HV
  go_enter Tryz.func22, Tryz.ntmps22
  go_wp2_with fail
  refine hK.out.mono ?_
  rintro e w1 ⟨rfl, d1⟩
  have hB1 := Lib.hid (HA.out.trans (d1.mono HA.out.size))
  have arg1 := (d1.block _ (by simp)).trans HArg.out
  unfold RBox at arg1
  have A1 := Lib.hid arg1
  clear arg1 d1
  go_wp2_with fail
  refine (hI.out _).mono ?_
  rintro e w2 ⟨rfl, d2⟩
  subst d2
  have hX : Below w1.heap.size w1 (w1.alloc (.cells #[.slice na nl nc, .int .i64 fu] 70)) := (Below.refl _ _).alloc (Nat.le_refl _) _
  have hBX := hB1.out.trans (hX.mono hB1.out.size)
  have argx := (hX.block _ (Array.getElem?_eq_some_iff.1 A1.out).1).trans A1.out
  have y0 : (w1.alloc (.cells #[.slice na nl nc, .int .i64 fu] 70)).cell? ⟨w.heap.size, 0, none⟩ = some (.int .i64 f.op) := by rw [Lib.cell_of_heap argx]; rfl
  have y1 : (w1.alloc (.cells #[.slice na nl nc, .int .i64 fu] 70)).cell? ⟨w.heap.size, 1, none⟩ = some (.int .i64 f.num) := by rw [Lib.cell_of_heap argx]; rfl
  have y2 : (w1.alloc (.cells #[.slice na nl nc, .int .i64 fu] 70)).cell? ⟨w.heap.size, 2, none⟩ = some (.string f.name) := by rw [Lib.cell_of_heap argx]; rfl
  have y3 : (w1.alloc (.cells #[.slice na nl nc, .int .i64 fu] 70)).cell? ⟨w.heap.size, 3, none⟩ = some (.slice f.ka f.kl f.kc) := by rw [Lib.cell_of_heap argx]; rfl
  have y4 : (w1.alloc (.cells #[.slice na nl nc, .int .i64 fu] 70)).cell? ⟨w.heap.size, 4, none⟩ = some (.slice f.ma f.ml f.mc) := by rw [Lib.cell_of_heap argx]; rfl
  have hz1 : w.heap.size < w1.heap.size := (Array.getElem?_eq_some_iff.1 A1.out).1
  have hO := Lib.hid (ofCI ns _ t (Nat.le_refl _) f w1.heap.size fu na nl nc _ ((H.out.lt.kept (same_of_below hBX)).mono (fun b hb => by have := hb.2; omega)) HOK.out (ev_new w1 na nl nc fu 70) (HP.out.old hBX (by omega)) hnl HF.out.1 HF.out.2)
  have HBX := Lib.hid hBX
  have HX := Lib.hid hX
  unfold EvP Fld.val at hO
  clear hX hBX argx
  generalize hsv : evalT ns t fu = sv at *
  have HSV := Lib.hid hsv
  clear hsv
  obtain ⟨v, c, fv⟩ := sv
  dsimp only at *
  go_wp2_with fail
  refine hO.out.mono ?_
  rintro e w3 ⟨rfl, -, hg⟩
  go_wp2
  go_ret2
  exact ⟨by rw [HSV.out]; rfl, HBX.out.grown hg HBX.out.size (fun k e => by cases e; omega)⟩
end Go.Proofs.YtjphjnopdlfplaaGreatDoor
