/-
  Whether a rule is ok, and its text: the model's answers and the program's.
-/
import Derived.Test.YtgoaajnppadmjaaGreatDoorRuleTextI
import Derived.Test.YtgoaajnppadmjaaGreatDoorRuleFits
namespace Go.Proofs.YtgoaajnppadmjaaGreatDoor
open Go.RowKit
set_option linter.unusedVariables false
set_option linter.unusedSimpArgs false

def okR (t : Tr) : Prop := 0 ≤ partsT t 1 30 ∧ (textT t).length ≤ 300
instance (t : Tr) : Decidable (okR t) := by unfold okR; infer_instance
theorem okR_P {t : Tr} (h : 0 ≤ partsT t 1 30) : OkP t := ⟨1, 30, Int.le_refl _, h⟩
def RBox (f : Fld) : Obj := .cells #[.int .i64 f.op, .int .i64 f.num, .string f.name, .slice f.ka f.kl f.kc, .slice f.ma f.ml f.mc] 32
set_option maxHeartbeats 4000000 in
theorem specRuleOk {t : Tr} {f : Fld} {w : World} (h : TrF All w t f) (hs : szT t ≤ 1048576) :
    Calls Tryz.prog 25 #[f.val] w fun e w' => e = .returned (.bool (decide (okR t))) ∧ Below w.heap.size w w' := by
  have hA : Below w.heap.size w (w.alloc (RBox f)) := (Below.refl _ _).alloc (Nat.le_refl _) _
  have hArg : (w.alloc (RBox f)).heap[w.heap.size]? = some (RBox f) := heap_alloc_new w _
  have hP := Lib.hid (partsC _ t (Nat.le_refl _) hs f 1 30 _ (h.kept (same_of_below hA)) (by omega) (by omega) (by omega))
  have H := Lib.hid h
  have HA := Lib.hid hA
  have HS := Lib.hid hs
  clear h hA hs
  unfold Fld.val
  generalize hpv : partsT t 1 30 = pv at *
  have HPV := Lib.hid hpv
  clear hpv
  rcases Int.lt_or_le pv 0 with c | c
  · have z0 : decide (0 ≤ pv) = false := decide_eq_false (by omega)
    have hno : Hid (decide (okR t) = false) := decide_eq_false (fun k => by have := k.1; rw [HPV.out] at this; omega)
    go_enter Tryz.func25, Tryz.ntmps25
    go_wp2_with fail
    refine hP.out.mono ?_
    rintro e w1 ⟨rfl, d1⟩
    go_wp2
    go_ret
    exact ⟨retB hno.out.symm, HA.out.trans (d1.mono HA.out.size)⟩
  · have z0 : decide (0 ≤ pv) = true := decide_eq_true c
    have hok : Hid (OkP t) := okR_P (by rw [HPV.out]; exact c)
    have HArg := Lib.hid hArg
    have hTL := textT_len _ t (Nat.le_refl _) hok.out
    have hTW := okP_w hok.out
    have hTZ : (textB t).size ≤ 7200 := by rw [textB_size]; omega
    have HE : Hid (decide (okR t) = decide (((textB t).size : Int) ≤ 300)) := by
      show _ = _
      rw [textB_size]
      refine decide_eq_decide.2 ⟨fun k => by have := k.2; omega, fun k => ⟨by rw [HPV.out]; exact c, by omega⟩⟩
    clear hArg hTL hTW
    go_enter Tryz.func25, Tryz.ntmps25
    go_wp2_with fail
    refine hP.out.mono ?_
    rintro e w1 ⟨rfl, d1⟩
    have arg1 := (d1.block _ (by simp)).trans HArg.out
    have hB1 := Lib.hid (HA.out.trans (d1.mono HA.out.size))
    unfold RBox at arg1
    have y0 : w1.cell? ⟨w.heap.size, 0, none⟩ = some (.int .i64 f.op) := by rw [Lib.cell_of_heap arg1]; rfl
    have y1 : w1.cell? ⟨w.heap.size, 1, none⟩ = some (.int .i64 f.num) := by rw [Lib.cell_of_heap arg1]; rfl
    have y2 : w1.cell? ⟨w.heap.size, 2, none⟩ = some (.string f.name) := by rw [Lib.cell_of_heap arg1]; rfl
    have y3 : w1.cell? ⟨w.heap.size, 3, none⟩ = some (.slice f.ka f.kl f.kc) := by rw [Lib.cell_of_heap arg1]; rfl
    have y4 : w1.cell? ⟨w.heap.size, 4, none⟩ = some (.slice f.ma f.ml f.mc) := by rw [Lib.cell_of_heap arg1]; rfl
    have hT := Lib.hid (textC _ t (Nat.le_refl _) f w1 (H.out.kept (same_of_below hB1.out)) hok.out)
    clear arg1 d1
    go_wp2_with fail
    refine hT.out.mono ?_
    rintro e w2 ⟨rfl, d2⟩
    go_wp2
    go_ret
    refine ⟨retB ?_, hB1.out.trans (d2.mono hB1.out.size)⟩
    rw [HE.out]
set_option maxHeartbeats 4000000 in
theorem implRuleOk {t : Tr} {f : Fld} {w : World} (h : TrF All w t f) (hs : szT t ≤ 1048576) (hL : Laid w) :
    Calls Tryz.prog 24 #[f.val] w fun e w' => e = .returned (.bool (decide (okR t))) ∧ Below w.heap.size w w' := by
  have hA : Below w.heap.size w ((w.alloc (RBox f)).alloc (.cells #[.int .i64 0] 91)) := ((Below.refl _ _).alloc (Nat.le_refl _) _).alloc (by simp only [World.size_alloc]; omega) _
  have hArg : ((w.alloc (RBox f)).alloc (.cells #[.int .i64 0] 91)).heap[w.heap.size]? = some (RBox f) := by
    rw [Lib.alloc_old _ _ _ (by simp only [World.size_alloc]; omega)]
    exact heap_alloc_new w _
  have hCnt : ((w.alloc (RBox f)).alloc (.cells #[.int .i64 0] 91)).heap[w.heap.size + 1]? = some (.cells #[.int .i64 0] 91 (0, 0)) := by
    have := heap_alloc_new (w.alloc (RBox f)) (.cells #[.int .i64 0] 91)
    simpa only [World.size_alloc] using this
  have hc : Cnt ((w.alloc (RBox f)).alloc (.cells #[.int .i64 0] 91)) (w.heap.size + 1) 0 := ⟨(Array.getElem?_eq_some_iff.1 hCnt).1, by rw [Lib.cell_of_heap hCnt]; rfl, Lib.frozen_of_heap hCnt 0⟩
  have hT2 : TrF (fun b => b ≠ w.heap.size + 1) ((w.alloc (RBox f)).alloc (.cells #[.int .i64 0] 91)) t f := (h.lt.kept (same_of_below hA)).mono (fun b hb => by have := hb.2; omega)
  have hF := Lib.hid (fitsC _ t (Nat.le_refl _) hs f 1 (w.heap.size + 1) 0 _ hT2 hc (by omega) (by omega) (by omega))
  have H := Lib.hid h
  have HA := Lib.hid hA
  have HS := Lib.hid hs
  have HL := Lib.hid hL
  have HArg := Lib.hid hArg
  clear h hA hs hL hCnt hc hT2 hArg
  unfold Fld.val
  go_enter Tryz.func24, Tryz.ntmps24
  go_wp2_with fail
  refine hF.out.mono ?_
  rintro e w1 ⟨b, rfl, hb, g1⟩
  have e30 : (30 : Int) - 0 = 30 := rfl
  have hbv : Hid (b = decide (0 ≤ partsT t 1 30)) := hb.out.1
  have hB1 : Hid (Below w.heap.size w w1) := HA.out.grown g1 HA.out.size (fun k e => by cases e; omega)
  have arg1 := (g1.block w.heap.size (by simp; omega) (by simp)).trans HArg.out
  clear hb g1 e30
  cases b with
  | false =>
    have hno : Hid (decide (okR t) = false) := decide_eq_false (fun k => by have h1 := hbv.out; have h2 := k.1; simp at h1; omega)
    clear arg1
    go_wp2
    go_ret
    exact ⟨retB hno.out.symm, hB1.out⟩
  | true =>
    have c : 0 ≤ partsT t 1 30 := by have h1 := hbv.out; simpa using h1.symm
    have hok : Hid (OkP t) := okR_P c
    have hTL := textT_len _ t (Nat.le_refl _) hok.out
    have hTW := okP_w hok.out
    have hTZ : (textB t).size ≤ 7200 := by rw [textB_size]; omega
    have HE : Hid (decide (okR t) = decide (((textB t).size : Int) ≤ 300)) := by
      show _ = _
      rw [textB_size]
      refine decide_eq_decide.2 ⟨fun k => by have := k.2; omega, fun k => ⟨c, by omega⟩⟩
    have hT := Lib.hid (textIC _ t (Nat.le_refl _) f w1 (H.out.kept (same_of_below hB1.out)) hok.out (laid_stays HL.out hB1.out))
    unfold RBox at arg1
    have y0 : w1.cell? ⟨w.heap.size, 0, none⟩ = some (.int .i64 f.op) := by rw [Lib.cell_of_heap arg1]; rfl
    have y1 : w1.cell? ⟨w.heap.size, 1, none⟩ = some (.int .i64 f.num) := by rw [Lib.cell_of_heap arg1]; rfl
    have y2 : w1.cell? ⟨w.heap.size, 2, none⟩ = some (.string f.name) := by rw [Lib.cell_of_heap arg1]; rfl
    have y3 : w1.cell? ⟨w.heap.size, 3, none⟩ = some (.slice f.ka f.kl f.kc) := by rw [Lib.cell_of_heap arg1]; rfl
    have y4 : w1.cell? ⟨w.heap.size, 4, none⟩ = some (.slice f.ma f.ml f.mc) := by rw [Lib.cell_of_heap arg1]; rfl
    clear arg1 hTL hTW c
    go_wp2_with fail
    refine hT.out.mono ?_
    rintro e w2 ⟨rfl, d2⟩
    go_wp2
    go_ret
    refine ⟨retB ?_, hB1.out.trans (d2.mono hB1.out.size)⟩
    rw [HE.out]
/-- What is written of a rule: nothing, if it is not ok. -/
def writeR (t : Tr) : ByteArray := if okR t then textB t else ⟨#[]⟩
end Go.Proofs.YtgoaajnppadmjaaGreatDoor
