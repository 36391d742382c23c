/-
  The names of a rule, if that is ok: the model's answer and the program's.
-/
import Derived.Test.YtgoaajnppadmjaaGreatDoorNamesL
namespace Go.Proofs.YtgoaajnppadmjaaGreatDoor
open Go.RowKit
set_option linter.unusedVariables false
set_option linter.unusedSimpArgs false

def namesR (t : Tr) : List (List UInt8) := if okR t then putsU [] (namesT t) else []
theorem namesR_len (t : Tr) : (namesR t).length ≤ 30 := by
  unfold namesR
  split
  · rename_i h
    have h1 := putsU_len (namesT t) []
    have h2 := names_len _ t (Nat.le_refl _)
    have h3 := okP_w (okR_P h.1)
    simp only [List.length_nil] at h1
    omega
  · simp
def SNamesP (l : List (List UInt8)) (w : World) (e : Ending) (w' : World) : Prop := ∃ (a : Option Addr) (n c : Nat), e = .returned (.slice a n c) ∧ n = l.length ∧ Strs w' a n (l.map bsU) ∧ Below w.heap.size w w'
theorem row_mono {w : World} {B B' : Nat} {v : Value} {n : Nat} {l : List (List UInt8)} (h : RowU B w v n l) (hb : B' ≤ B) : RowU B' w v n l :=
  ⟨h.1, h.2.imp id fun ⟨g, cap, cur, q1, q2, q3⟩ => ⟨g, cap, cur, q1, Nat.le_trans hb q2, q3⟩⟩
set_option maxHeartbeats 8000000 in
theorem specRuleNames {t : Tr} {f : Fld} {w : World} (h : TrF All w t f) (hs : szT t ≤ 1048576) :
    Calls Tryz.prog 13 #[f.val] w (SNamesP (namesR t) w) := by
  have hA : Below w.heap.size w (w.alloc (RBox f)) := (Below.refl _ _).alloc (Nat.le_refl _) _
  have hArg : (w.alloc (RBox f)).heap[w.heap.size]? = some (RBox f) := heap_alloc_new w _
  have hO := Lib.hid (specRuleOk (h.kept (same_of_below hA)) hs)
  have H := Lib.hid h
  have HA := Lib.hid hA
  have HArg := Lib.hid hArg
  clear h hA hArg hs
  unfold RBox at HA HArg hO
  unfold SNamesP
  unfold Fld.val at hO ⊢
  cases hok : decide (okR t) with
  | false =>
    rw [hok] at hO
    have HF : Hid (namesR t = []) := by refine Lib.hid ?_; unfold namesR; rw [if_neg (by simpa using hok)]
    rw [HF.out]
    clear hok
    go_enter Tryz.func13, Tryz.ntmps13
    go_wp2_with fail
    refine hO.out.mono ?_
    rintro e w1 ⟨rfl, d1⟩
    have HB1 := Lib.hid (HA.out.trans (d1.mono HA.out.size))
    clear d1
    go_wp2
    go_ret
    exact ⟨some ⟨w1.heap.size, 0, none⟩, 0, 0, rfl, rfl, ⟨rfl, Or.inl rfl⟩, HB1.out.alloc HB1.out.size _⟩
  | true =>
    rw [hok] at hO
    have hk : okR t := by simpa using hok
    have HF : Hid (namesR t = putsU [] (namesT t)) := by refine Lib.hid ?_; unfold namesR; rw [if_pos hk]
    have HP := Lib.hid (okR_P hk.1)
    have hw := okP_w HP.out
    have hnl := names_len _ t (Nat.le_refl _)
    rw [HF.out]
    clear hok hk
    go_enter Tryz.func13, Tryz.ntmps13
    go_wp2_with fail
    refine hO.out.mono ?_
    rintro e w1 ⟨rfl, d1⟩
    have HB1 := Lib.hid (HA.out.trans (d1.mono HA.out.size))
    have arg1 := (d1.block _ (Array.getElem?_eq_some_iff.1 HArg.out).1).trans HArg.out
    have y0 : w1.cell? ⟨w.heap.size, 0, none⟩ = some (.int .i64 f.op) := by rw [Lib.cell_of_heap arg1]; rfl
    have y1 : w1.cell? ⟨w.heap.size, 1, none⟩ = some (.int .i64 f.num) := by rw [Lib.cell_of_heap arg1]; rfl
    have y2 : w1.cell? ⟨w.heap.size, 2, none⟩ = some (.string f.name) := by rw [Lib.cell_of_heap arg1]; rfl
    have y3 : w1.cell? ⟨w.heap.size, 3, none⟩ = some (.slice f.ka f.kl f.kc) := by rw [Lib.cell_of_heap arg1]; rfl
    have y4 : w1.cell? ⟨w.heap.size, 4, none⟩ = some (.slice f.ma f.ml f.mc) := by rw [Lib.cell_of_heap arg1]; rfl
    have hXB : Below w1.heap.size w1 (w1.alloc (.cells #[] 9)) := (Below.refl _ _).alloc (Nat.le_refl _) _
    have hM := Lib.hid (namesSC _ t (Nat.le_refl _) f (w1.alloc (.cells #[] 9)) w1.heap.size 0 [] (H.out.kept (same_of_below (HB1.out.trans (hXB.mono HB1.out.size)))) HP.out ⟨rfl, Or.inl rfl⟩ (by simp only [World.size_alloc]; omega) (Nat.le_refl _) (by simp only [List.length_nil]; omega))
    rw [List.length_nil] at hM
    unfold Fld.val PutP at hM
    have HXB := Lib.hid (HB1.out.trans (hXB.mono HB1.out.size))
    clear d1 arg1 hXB
    go_wp2_with fail
    refine hM.out.mono ?_
    rintro e w2 ⟨g, n, c, rfl, hn, hc, hg, hC, d2⟩
    have HC := Lib.hid hC
    have HN := Lib.hid hn
    clear hC hn y0 y1 y2 y3 y4
    go_wp2
    go_ret
    exact ⟨_, n, c, rfl, HN.out, HC.out, HXB.out.trans (d2.mono HXB.out.size)⟩
set_option maxHeartbeats 8000000 in
theorem implRuleNames {t : Tr} {f : Fld} {w : World} (h : TrF All w t f) (hs : szT t ≤ 1048576) (hL : Laid w) :
    Calls Tryz.prog 15 #[f.val] w (NamesP (namesR t) w) := by
  have hA : Below w.heap.size w (w.alloc (RBox f)) := (Below.refl _ _).alloc (Nat.le_refl _) _
  have hArg : (w.alloc (RBox f)).heap[w.heap.size]? = some (RBox f) := heap_alloc_new w _
  have hO := Lib.hid (implRuleOk (h.kept (same_of_below hA)) hs (laid_stays hL hA))
  have H := Lib.hid h
  have HA := Lib.hid hA
  have HArg := Lib.hid hArg
  clear h hA hArg hs hL
  unfold RBox at HA HArg hO
  unfold NamesP
  unfold Fld.val at hO ⊢
  cases hok : decide (okR t) with
  | false =>
    rw [hok] at hO
    have HF : Hid (namesR t = []) := by refine Lib.hid ?_; unfold namesR; rw [if_neg (by simpa using hok)]
    rw [HF.out]
    clear hok
    go_enter Tryz.func15, Tryz.ntmps15
    go_wp2_with fail
    refine hO.out.mono ?_
    rintro e w1 ⟨rfl, d1⟩
    have HB1 := Lib.hid (HA.out.trans (d1.mono HA.out.size))
    clear d1
    go_wp2
    go_ret
    exact ⟨none, 0, 0, rfl, rfl, World.ownsRow_nil _ _ _ _, HB1.out⟩
  | true =>
    rw [hok] at hO
    have hk : okR t := by simpa using hok
    have HF : Hid (namesR t = putsU [] (namesT t)) := by refine Lib.hid ?_; unfold namesR; rw [if_pos hk]
    have HP := Lib.hid (okR_P hk.1)
    have hw := okP_w HP.out
    have hnl := names_len _ t (Nat.le_refl _)
    rw [HF.out]
    clear hok hk
    go_enter Tryz.func15, Tryz.ntmps15
    go_wp2_with fail
    refine hO.out.mono ?_
    rintro e w1 ⟨rfl, d1⟩
    have HB1 := Lib.hid (HA.out.trans (d1.mono HA.out.size))
    have arg1 := (d1.block _ (Array.getElem?_eq_some_iff.1 HArg.out).1).trans HArg.out
    have y0 : w1.cell? ⟨w.heap.size, 0, none⟩ = some (.int .i64 f.op) := by rw [Lib.cell_of_heap arg1]; rfl
    have y1 : w1.cell? ⟨w.heap.size, 1, none⟩ = some (.int .i64 f.num) := by rw [Lib.cell_of_heap arg1]; rfl
    have y2 : w1.cell? ⟨w.heap.size, 2, none⟩ = some (.string f.name) := by rw [Lib.cell_of_heap arg1]; rfl
    have y3 : w1.cell? ⟨w.heap.size, 3, none⟩ = some (.slice f.ka f.kl f.kc) := by rw [Lib.cell_of_heap arg1]; rfl
    have y4 : w1.cell? ⟨w.heap.size, 4, none⟩ = some (.slice f.ma f.ml f.mc) := by rw [Lib.cell_of_heap arg1]; rfl
    have hM := Lib.hid (namesIC _ t (Nat.le_refl _) f w1 (H.out.kept (same_of_below HB1.out)) HP.out)
    unfold Fld.val NamesP at hM
    clear d1 arg1
    go_wp2_with fail
    refine hM.out.mono ?_
    rintro e w2 ⟨a, n, c, rfl, hn, hC, d2⟩
    have HB2 := Lib.hid (HB1.out.trans (d2.mono HB1.out.size))
    have hn30 : n ≤ 30 := by omega
    have hC2 : RowU w1.heap.size w2 (.slice a n c) n (namesT t) := hC
    have HN := Lib.hid hn
    have hSort := Lib.hid (sortCallS hC2 (by omega))
    have HC2 := Lib.hid hC2
    clear hC hn hM d2 y0 y1 y2 y3 y4 hC2
    go_wp2_with fail
    refine hSort.out.mono ?_
    rintro e w3 ⟨rfl, hO3, hg3⟩
    have hb3 : Below w.heap.size w w3 := HB2.out.grown hg3 HB2.out.size (fun y e => Nat.le_trans HB1.out.size (World.ownsRow.lt HC2.out y e).1)
    have hComp := Lib.hid (compactCallS hO3 (by omega))
    have HO3 := Lib.hid hO3
    have HB3 := Lib.hid hb3
    clear hO3 hg3 hSort hb3
    go_wp2_with fail
    refine hComp.out.mono ?_
    rintro e w4 ⟨rfl, hO4, hg4⟩
    have hb4 : Below w.heap.size w w4 := HB3.out.grown hg4 HB3.out.size (fun y e => Nat.le_trans HB1.out.size (World.ownsRow.lt HO3.out y e).1)
    have HO4 := Lib.hid hO4
    have HB4 := Lib.hid hb4
    clear hO4 hg4 hComp hb4
    go_wp2
    go_ret
    exact ⟨a, _, c, rfl, rfl, row_mono HO4.out HB1.out.size, HB4.out⟩
end Go.Proofs.YtgoaajnppadmjaaGreatDoor
