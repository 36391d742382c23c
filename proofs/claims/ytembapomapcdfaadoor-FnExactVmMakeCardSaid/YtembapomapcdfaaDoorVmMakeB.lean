/-
  The program of a rule, if that is ok: the model's answer and the program's.
-/
import Derived.Test.YtembapomapcdfaaDoorMakeS
import Derived.Test.YtembapomapcdfaaDoorMakeI
import Derived.Test.YtembapomapcdfaaDoorCodeMarkI
namespace Go.Proofs.YtembapomapcdfaaDoor
open Go.RowKit
set_option linter.unusedVariables false
set_option linter.unusedSimpArgs false

def codeR (t : Tr) : List Pl := if okR t then codeT t else []
def MakeRP (t : Tr) (w : World) (e : Ending) (w' : World) : Prop := ∃ (a : Option Addr) (n c : Nat), e = .returned (.slice a n c) ∧ n = (codeR t).length ∧ CodeO w.heap.size w' (.slice a n c) (codeR t) ∧ Below w.heap.size w w'
theorem codeT_small {t : Tr} (h : OkP t) : ∀ d ∈ codeT t, d.nm.size ≤ 8 ∧ d.ms.length ≤ 5 := by
  have key : ∀ (k : Nat) (t : Tr), wT t ≤ k → OkP t → ∀ d ∈ codeT t, d.nm.size ≤ 8 ∧ d.ms.length ≤ 5 := by
    intro k
    induction k with
    | zero => intro t hw _; cases t; rw [wT] at hw; omega
    | succ k ih =>
      rintro ⟨o, n, s, ks, ms⟩ hw hok d hd
      obtain ⟨hp, hoks⟩ := okP_parts hok
      rw [wT] at hw
      have hm : ∀ t ∈ ks, ∀ d ∈ codeT t, d.nm.size ≤ 8 ∧ d.ms.length ≤ 5 := fun t ht => ih t (by have := wL_mem ht; omega) (hoks t ht)
      have hfl : ∀ l : List Tr, (∀ t ∈ l, t ∈ ks) → ∀ d ∈ (l.map codeT).flatten, d.nm.size ≤ 8 ∧ d.ms.length ≤ 5 := by
        intro l hl d hd
        obtain ⟨x, hx, hdx⟩ := List.mem_flatten.1 hd
        obtain ⟨t, ht, rfl⟩ := List.mem_map.1 hx
        exact hm t (hl t ht) d hdx
      by_cases h9 : o = 9
      · subst h9
        have h4 : ks.length = 4 := by have := hp.1; unfold kidsN at this; simp at this; omega
        rw [codeT_if h4] at hd
        rcases List.mem_append.1 hd with hd | hd
        · exact hfl _ (fun t ht => List.mem_of_mem_take ht) d hd
        rcases List.mem_cons.1 hd with rfl | hd
        · exact ⟨Nat.zero_le _, Nat.zero_le _⟩
        rcases List.mem_append.1 hd with hd | hd
        · exact hm _ (List.getElem_mem _) d hd
        rcases List.mem_cons.1 hd with rfl | hd
        · exact ⟨Nat.zero_le _, Nat.zero_le _⟩
        · exact hm _ (List.getElem_mem _) d hd
      · rw [codeT_op h9] at hd
        rcases List.mem_append.1 hd with hd | hd
        · exact hfl ks (fun t ht => ht) d hd
        · rw [List.mem_singleton] at hd
          subst hd
          have h3 := hp.2
          unfold HoldsN at h3
          split at h3
          · exact ⟨by show s.size ≤ 8; omega, by show ms.length ≤ 5; omega⟩
          split at h3
          · exact ⟨nmB_size h3.1, by show ms.length ≤ 5; omega⟩
          split at h3
          · exact ⟨by show s.size ≤ 8; omega, (mok_mem h3.2.2).1⟩
          · exact ⟨by show s.size ≤ 8; omega, by show ms.length ≤ 5; omega⟩
  exact key _ t (Nat.le_refl _) h
theorem codeR_small (t : Tr) : (codeR t).length ≤ 60 ∧ ∀ d ∈ codeR t, d.nm.size ≤ 8 ∧ d.ms.length ≤ 5 := by
  unfold codeR
  split
  · rename_i h
    have hp := okR_P h.1
    have := codeT_len hp
    have := okP_w hp
    exact ⟨by omega, codeT_small hp⟩
  · exact ⟨Nat.zero_le _, fun d hd => by simp at hd⟩
theorem cnt_small : ∀ {ds : List Pl}, (∀ d ∈ ds, d.ms.length ≤ 5) → cntL ds ≤ 13 * ds.length
  | [], _ => by simp [cntL]
  | d :: r, h => by
    have a := h d (by simp)
    have b := cnt_small (ds := r) (fun x hx => h x (by simp [hx]))
    simp only [cntL, List.map_cons, List.sum_cons, List.length_cons] at b ⊢
    unfold cntP at b ⊢
    omega
theorem owns_same {w w' : World} {B : Nat} {e : TypeId} {z : Nat} {v : Value} {n : Nat} {xs : List Value} (h : w.ownsRow B e z v n xs) (hb : ∀ b, B ≤ b → b < w.heap.size → w'.heap[b]? = w.heap[b]?) : w'.ownsRow B e z v n xs := by
  refine ⟨h.1, ?_⟩
  rcases h.2 with h2 | ⟨g, cap, cur, h3, hg, h4, h5⟩
  · exact Or.inl h2
  · exact Or.inr ⟨g, cap, cur, h3, hg, (hb g hg (Array.getElem?_eq_some_iff.1 h4).1).trans h4, h5⟩
theorem CodeO.same {B : Nat} {w w' : World} {v : Value} {ds : List Pl} (h : CodeO B w v ds) (hb : ∀ b, B ≤ b → b < w.heap.size → w'.heap[b]? = w.heap[b]?) : CodeO B w' v ds := by
  obtain ⟨fs, h1, h2, h3⟩ := h
  exact ⟨fs, owns_same h1 hb, allO_imp (fun _ _ k => ⟨k.1, k.2.1, k.2.2.1, k.2.2.2.1, owns_same k.2.2.2.2 hb⟩) h2, h3⟩
set_option maxHeartbeats 8000000 in
theorem specVmMake {t : Tr} {f : Fld} {w : World} (h : TrF All w t f) (hs : szT t ≤ 1048576) :
    Calls Tryd.prog 19 #[f.val] w (MakeRP t w) := by
  have hA : Below w.heap.size w (w.alloc (RBox f)) := (Below.refl _ _).alloc (Nat.le_refl _) _
  have hArg : (w.alloc (RBox f)).heap[w.heap.size]? = some (RBox f) := heap_alloc_new w _
  have hO := Lib.hid (specRuleOk (h.kept (same_of_below hA)) hs)
  have H := Lib.hid h
  have HA := Lib.hid hA
  have HArg := Lib.hid hArg
  clear h hA hArg hs
  unfold RBox at HA HArg hO
  unfold MakeRP
  unfold Fld.val at hO ⊢
  cases hok : decide (okR t) with
  | false =>
    rw [hok] at hO
    have HF : Hid (codeR t = []) := by refine Lib.hid ?_; unfold codeR; rw [if_neg (by simpa using hok)]
    rw [HF.out]
    clear hok
    go_enter Tryd.func19, Tryd.ntmps19
    go_wp2_with fail
    refine hO.out.mono ?_
    rintro e w1 ⟨rfl, d1⟩
    have HB1 := Lib.hid (HA.out.trans (d1.mono HA.out.size))
    clear d1
    go_wp2
    go_ret
    exact ⟨some ⟨w1.heap.size, 0, none⟩, 0, 0, rfl, rfl, CodeO.made HB1.out.size, HB1.out.alloc HB1.out.size _⟩
  | true =>
    rw [hok] at hO
    have hk : okR t := by simpa using hok
    have HF : Hid (codeR t = codeT t) := by refine Lib.hid ?_; unfold codeR; rw [if_pos hk]
    have HP := Lib.hid (okR_P hk.1)
    rw [HF.out]
    clear hok hk
    go_enter Tryd.func19, Tryd.ntmps19
    go_wp2_with fail
    refine hO.out.mono ?_
    rintro e w1 ⟨rfl, d1⟩
    have HB1 := Lib.hid (HA.out.trans (d1.mono HA.out.size))
    have arg1 := (d1.block _ (Array.getElem?_eq_some_iff.1 HArg.out).1).trans HArg.out
    have y0 : w1.cell? ⟨w.heap.size, 0, none⟩ = some (.int .i64 f.op) := by rw [Lib.cell_of_heap arg1]; rfl
    have y1 : w1.cell? ⟨w.heap.size, 1, none⟩ = some (.int .i64 f.num) := by rw [Lib.cell_of_heap arg1]; rfl
    have y2 : w1.cell? ⟨w.heap.size, 2, none⟩ = some (.string f.name) := by rw [Lib.cell_of_heap arg1]; rfl
    have y3 : w1.cell? ⟨w.heap.size, 3, none⟩ = some (.slice f.ka f.kl f.kc) := by rw [Lib.cell_of_heap arg1]; rfl
    have y4 : w1.cell? ⟨w.heap.size, 4, none⟩ = some (.slice f.ma f.ml f.mc) := by rw [Lib.cell_of_heap arg1]; rfl
    have hM := Lib.hid (makeSC _ t (Nat.le_refl _) f w1 (H.out.kept (same_of_below HB1.out)) HP.out)
    unfold Fld.val MakeP at hM
    clear d1 arg1
    go_wp2_with fail
    refine hM.out.mono ?_
    rintro e w2 ⟨a, n, c, rfl, hn, hC, d2⟩
    have HC := Lib.hid (hC.mono HB1.out.size)
    have HN := Lib.hid hn
    clear hC hn y0 y1 y2 y3 y4
    go_wp2
    go_ret
    exact ⟨a, n, c, rfl, HN.out, HC.out, HB1.out.trans (d2.mono HB1.out.size)⟩
set_option maxHeartbeats 8000000 in
theorem implVmMake {t : Tr} {f : Fld} {w : World} (h : TrF All w t f) (hs : szT t ≤ 1048576) (hL : Laid w) :
    Calls Tryd.prog 20 #[f.val] w (MakeRP t w) := by
  have hA : Below w.heap.size w (w.alloc (RBox f)) := (Below.refl _ _).alloc (Nat.le_refl _) _
  have hArg : (w.alloc (RBox f)).heap[w.heap.size]? = some (RBox f) := heap_alloc_new w _
  have hO := Lib.hid (implRuleOk (h.kept (same_of_below hA)) hs (laid_stays hL hA))
  have H := Lib.hid h
  have HA := Lib.hid hA
  have HArg := Lib.hid hArg
  clear h hA hArg hs hL
  unfold RBox at HA HArg hO
  unfold MakeRP
  unfold Fld.val at hO ⊢
  cases hok : decide (okR t) with
  | false =>
    rw [hok] at hO
    have HF : Hid (codeR t = []) := by refine Lib.hid ?_; unfold codeR; rw [if_neg (by simpa using hok)]
    rw [HF.out]
    clear hok
    go_enter Tryd.func20, Tryd.ntmps20
    go_wp2_with fail
    refine hO.out.mono ?_
    rintro e w1 ⟨rfl, d1⟩
    have HB1 := Lib.hid (HA.out.trans (d1.mono HA.out.size))
    clear d1
    go_wp2
    go_ret
    exact ⟨none, 0, 0, rfl, rfl, CodeO.nil _ _, HB1.out⟩
  | true =>
    rw [hok] at hO
    have hk : okR t := by simpa using hok
    have HF : Hid (codeR t = codeT t) := by refine Lib.hid ?_; unfold codeR; rw [if_pos hk]
    have HP := Lib.hid (okR_P hk.1)
    rw [HF.out]
    clear hok hk
    go_enter Tryd.func20, Tryd.ntmps20
    go_wp2_with fail
    refine hO.out.mono ?_
    rintro e w1 ⟨rfl, d1⟩
    have HB1 := Lib.hid (HA.out.trans (d1.mono HA.out.size))
    have arg1 := (d1.block _ (Array.getElem?_eq_some_iff.1 HArg.out).1).trans HArg.out
    have y0 : w1.cell? ⟨w.heap.size, 0, none⟩ = some (.int .i64 f.op) := by rw [Lib.cell_of_heap arg1]; rfl
    have y1 : w1.cell? ⟨w.heap.size, 1, none⟩ = some (.int .i64 f.num) := by rw [Lib.cell_of_heap arg1]; rfl
    have y2 : w1.cell? ⟨w.heap.size, 2, none⟩ = some (.string f.name) := by rw [Lib.cell_of_heap arg1]; rfl
    have y3 : w1.cell? ⟨w.heap.size, 3, none⟩ = some (.slice f.ka f.kl f.kc) := by rw [Lib.cell_of_heap arg1]; rfl
    have y4 : w1.cell? ⟨w.heap.size, 4, none⟩ = some (.slice f.ma f.ml f.mc) := by rw [Lib.cell_of_heap arg1]; rfl
    have hM := Lib.hid (makeIC _ t (Nat.le_refl _) f w1 (H.out.kept (same_of_below HB1.out)) HP.out)
    unfold Fld.val MakeP at hM
    clear d1 arg1
    go_wp2_with fail
    refine hM.out.mono ?_
    rintro e w2 ⟨a, n, c, rfl, hn, hC, d2⟩
    have HC := Lib.hid (hC.mono HB1.out.size)
    have HN := Lib.hid hn
    clear hC hn y0 y1 y2 y3 y4
    go_wp2
    go_ret
    exact ⟨a, n, c, rfl, HN.out, HC.out, HB1.out.trans (d2.mono HB1.out.size)⟩
end Go.Proofs.YtembapomapcdfaaDoor
