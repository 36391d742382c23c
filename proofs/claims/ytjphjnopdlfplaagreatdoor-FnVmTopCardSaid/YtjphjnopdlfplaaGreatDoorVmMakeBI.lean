/-
  The program of a rule, if that is ok: the program's answer.
-/
import Derived.Test.YtjphjnopdlfplaaGreatDoorJ29
import Derived.Test.YtjphjnopdlfplaaGreatDoorMakeI
import Derived.Test.YtjphjnopdlfplaaGreatDoorCodeMarkI
namespace Go.Proofs.YtjphjnopdlfplaaGreatDoor
open Go.RowKit
set_option linter.unusedVariables false
set_option linter.unusedSimpArgs false

theorem owns_same {w w' : World} {B : Nat} {e : TypeId} {z : Nat} {v : Value} {n : Nat} {xs : List Value} (h : w.ownsRow B e z v n xs) (hb : ∀ b, B ≤ b → b < w.heap.size → w'.heap[b]? = w.heap[b]?) : w'.ownsRow B e z v n xs := by
  refine ⟨h.1, ?_⟩
  rcases h.2 with h2 | ⟨g, cap, cur, h3, hg, h4, h5⟩
  · exact Or.inl h2
  · exact Or.inr ⟨g, cap, cur, h3, hg, (hb g hg (Array.getElem?_eq_some_iff.1 h4).1).trans h4, h5⟩
theorem CodeO.same {B : Nat} {w w' : World} {v : Value} {ds : List Pl} (h : CodeO B w v ds) (hb : ∀ b, B ≤ b → b < w.heap.size → w'.heap[b]? = w.heap[b]?) : CodeO B w' v ds := by
  obtain ⟨fs, h1, h2, h3⟩ := h
  exact ⟨fs, owns_same h1 hb, allO_imp (fun _ _ k => ⟨k.1, k.2.1, k.2.2.1, k.2.2.2.1, owns_same k.2.2.2.2 hb⟩) h2, h3⟩
set_option maxHeartbeats 8000000 in
theorem implVmMake {t : Tr} {f : Fld} {w : World} (h : TrF All w t f) (hs : szT t ≤ 1048576) (hL : Laid w) :
    Calls Tryz.prog 17 #[f.val] w (MakeRP t w) := by
  have hA : Below w.heap.size w (w.alloc (RBox f)) := (Below.refl _ _).alloc (Nat.le_refl _) _
  have hArg : (w.alloc (RBox f)).heap[w.heap.size]? = some (RBox f) := heap_alloc_new w _
  have hO := Lib.hid (implRuleOk (h.kept (same_of_below hA)) hs (laid_stays hL hA))
  have H := Lib.hid h
  have HA := Lib.hid hA
  have HArg := Lib.hid hArg
  clear h hA hArg hs hL
  unfold RBox at HA HArg hO
  unfold MakeRP
  unfold Fld.val at hO ⊢
  cases hok : decide (okR t) with
  | false =>
    rw [hok] at hO
    have HF : Hid (codeR t = []) := by refine Lib.hid ?_; unfold codeR; rw [if_neg (by simpa using hok)]
    rw [HF.out]
    clear hok
    go_enter Tryz.func17, Tryz.ntmps17
    go_wp2_with fail
    refine hO.out.mono ?_
    rintro e w1 ⟨rfl, d1⟩
    have HB1 := Lib.hid (HA.out.trans (d1.mono HA.out.size))
    clear d1
    go_wp2
    go_ret
    exact ⟨none, 0, 0, rfl, rfl, CodeO.nil _ _, HB1.out⟩
  | true =>
    rw [hok] at hO
    have hk : okR t := by simpa using hok
    have HF : Hid (codeR t = codeT t) := by refine Lib.hid ?_; unfold codeR; rw [if_pos hk]
    have HP := Lib.hid (okR_P hk.1)
    rw [HF.out]
    clear hok hk
    go_enter Tryz.func17, Tryz.ntmps17
    go_wp2_with fail
    refine hO.out.mono ?_
    rintro e w1 ⟨rfl, d1⟩
    have HB1 := Lib.hid (HA.out.trans (d1.mono HA.out.size))
    have arg1 := (d1.block _ (Array.getElem?_eq_some_iff.1 HArg.out).1).trans HArg.out
    have y0 : w1.cell? ⟨w.heap.size, 0, none⟩ = some (.int .i64 f.op) := by rw [Lib.cell_of_heap arg1]; rfl
    have y1 : w1.cell? ⟨w.heap.size, 1, none⟩ = some (.int .i64 f.num) := by rw [Lib.cell_of_heap arg1]; rfl
    have y2 : w1.cell? ⟨w.heap.size, 2, none⟩ = some (.string f.name) := by rw [Lib.cell_of_heap arg1]; rfl
    have y3 : w1.cell? ⟨w.heap.size, 3, none⟩ = some (.slice f.ka f.kl f.kc) := by rw [Lib.cell_of_heap arg1]; rfl
    have y4 : w1.cell? ⟨w.heap.size, 4, none⟩ = some (.slice f.ma f.ml f.mc) := by rw [Lib.cell_of_heap arg1]; rfl
    have hM := Lib.hid (makeIC _ t (Nat.le_refl _) f w1 (H.out.kept (same_of_below HB1.out)) HP.out)
    unfold Fld.val MakeP at hM
    clear d1 arg1
    go_wp2_with fail
    refine hM.out.mono ?_
    rintro e w2 ⟨a, n, c, rfl, hn, hC, d2⟩
    have HC := Lib.hid (hC.mono HB1.out.size)
    have HN := Lib.hid hn
    clear hC hn y0 y1 y2 y3 y4
    go_wp2
    go_ret
    exact ⟨a, n, c, rfl, HN.out, HC.out, HB1.out.trans (d2.mono HB1.out.size)⟩
end Go.Proofs.YtjphjnopdlfplaaGreatDoor
