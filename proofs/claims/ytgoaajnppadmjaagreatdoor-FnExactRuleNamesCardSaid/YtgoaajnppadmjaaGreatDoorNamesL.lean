/-
  The names of a rule put into words: the model's l4Names.
-/
import Derived.Test.YtgoaajnppadmjaaGreatDoorNamesS
namespace Go.Proofs.YtgoaajnppadmjaaGreatDoor
open Go.RowKit
set_option linter.unusedVariables false
set_option linter.unusedSimpArgs false

theorem putsU_app (l a b : List (List UInt8)) : putsU l (a ++ b) = putsU (putsU l a) b := by unfold putsU; rw [List.foldl_append]
theorem wL_app' (a b : List Tr) : wL (a ++ b) = wL a + wL b := by
  induction a with
  | nil => simp [wL]
  | cons x r ih => rw [List.cons_append, wL, wL, ih]; omega
theorem wL_at {ks : List Tr} {k : Nat} (h : k < ks.length) : wL (ks.take k) + wT ks[k] ≤ wL ks := by
  have h1 := wL_take ks (k + 1)
  rw [List.take_succ_eq_append_getElem h, wL_app'] at h1
  have : wL [ks[k]] = wT ks[k] := by simp [wL]
  omega
def NamesAtS (t : Tr) : Prop := ∀ (f : Fld) (w : World) (g c : Nat) (l : List (List UInt8)), TrF All w t f → OkP t → Strs w (some ⟨g, 0, none⟩) l.length (l.map bsU) → g < w.heap.size → l.length ≤ c → l.length + wT t ≤ 200 →
  Calls Tryz.prog 45 #[f.val, .slice (some ⟨g, 0, none⟩) l.length c] w (PutP (putsU l (namesT t)) w)
set_option maxRecDepth 100000 in
set_option maxHeartbeats 16000000 in
theorem namesSN (o n : Int) (s : ByteArray) (ks : List Tr) (ms : List (Int × Int)) (ih : ∀ t ∈ ks, NamesAtS t) : NamesAtS (.node o n s ks ms) := by
  intro f w g c l h hok hst hg hlc hl200
  obtain ⟨e1, e2, e3, hm, hk, hc1, hc2⟩ := trF_iff.1 h
  obtain ⟨fo, fn, fs, ka, kl, kc, ma, ml, mc⟩ := f
  dsimp only at e1 e2 e3 hm hk hc1 hc2
  have q1 := e1.symm
  have q2 := e2.symm
  have q3 := e3.symm
  clear e1 e2 e3
  subst q1 q2 q3
  obtain rfl := hk.1
  obtain rfl := hm.1
  obtain ⟨hpl, hoks⟩ := okP_parts hok
  rw [wT] at hl200
  have hw29 : wL ks ≤ 29 := by have := okP_w hok; rw [wT] at this; omega
  have hkb : ks.length ≤ 29 := by have := len_wL ks; omega
  have HK := Lib.hid hk
  have IH := Lib.hid ih
  have HOK := Lib.hid hoks
  have HNB : Hid (∀ k, (namesL (ks.take k)).length ≤ wL (ks.take k)) := fun k => by
    have e : ∀ l : List Tr, (namesL l).length ≤ wL l := by
      intro l
      induction l with
      | nil => simp [namesL, wL]
      | cons t r ih => rw [namesL, wL, List.length_append]; have := names_len _ t (Nat.le_refl _); omega
    exact e _
  clear h hm hk hc1 hc2 hpl hoks hok ih
  unfold Fld.val
  dsimp only
  have hA : Below w.heap.size w (w.alloc (.cells #[.int .i64 o, .int .i64 n, .string s, .slice ka ks.length kc, .slice ma ms.length mc] 32)) := (Below.refl _ _).alloc (Nat.le_refl _) _
  have hArg : (w.alloc (.cells #[.int .i64 o, .int .i64 n, .string s, .slice ka ks.length kc, .slice ma ms.length mc] 32)).heap[w.heap.size]? = some (.cells #[.int .i64 o, .int .i64 n, .string s, .slice ka ks.length kc, .slice ma ms.length mc] 32 (0, 0)) := heap_alloc_new w _
  have HST := Lib.hid (hst.kept hA)
  have hgA : g < (w.alloc (.cells #[.int .i64 o, .int .i64 n, .string s, .slice ka ks.length kc, .slice ma ms.length mc] 32)).heap.size := by simp only [World.size_alloc]; omega
  have HA := Lib.hid hA
  have HArg := Lib.hid hArg
  clear hA hArg hst
  unfold PutP
  cases ho : (o == 2) with
  | true =>
    have ho2 : o = 2 := by simpa using ho
    obtain ⟨L0, hL0⟩ : ∃ L0, L0 = putU l s.data.toList := ⟨_, rfl⟩
    have HL0 := Lib.hid hL0
    have hl0 : L0.length ≤ l.length + 1 := by rw [hL0]; have := putU_len l s.data.toList; omega
    have HT : Hid (putsU l (namesT (.node o n s ks ms)) = putsU L0 (namesL ks)) := by refine Lib.hid ?_; rw [two_head, if_pos ho2, putsU_app, hL0]; rfl
    have hput := Lib.hid (specPut g c l s (w.alloc (.cells #[.int .i64 o, .int .i64 n, .string s, .slice ka ks.length kc, .slice ma ms.length mc] 32)) HST.out hgA (by omega) hlc)
    rw [← hL0] at hput
    unfold PutP at hput
    have xa0 : (w.alloc (.cells #[.int .i64 o, .int .i64 n, .string s, .slice ka ks.length kc, .slice ma ms.length mc] 32)).cell? ⟨w.heap.size, 2, none⟩ = some (.string s) := by rw [Lib.cell_of_heap HArg.out]; rfl
    clear ho2 hL0
    go_enter Tryz.func45, Tryz.ntmps45
    go_wp2_with fail
    refine hput.out.mono ?_
    rintro e w1 ⟨g0, n0, c0, rfl, rfl, hc0, hg0, hS0, d0⟩
    have HS0 := Lib.hid hS0
    have HX0 := Lib.hid ((d0.block _ (Array.getElem?_eq_some_iff.1 HArg.out).1).trans HArg.out)
    have HB0 := Lib.hid (HA.out.trans (d0.mono HA.out.size))
    clear hS0 d0 hput HArg xa0 HST
    go_wp2_with fail
    go_loopw [1, 5] (fun vo vi wr => ∃ (k g c : Nat), k ≤ ks.length ∧ vi = .int .i64 k ∧ vo = .slice (some ⟨g, 0, none⟩) (putsU L0 (namesL (ks.take k))).length c ∧ (putsU L0 (namesL (ks.take k))).length ≤ c ∧ g < wr.heap.size ∧ Hid (Strs wr (some ⟨g, 0, none⟩) (putsU L0 (namesL (ks.take k))).length ((putsU L0 (namesL (ks.take k))).map bsU)) ∧ Hid (wr.heap[w.heap.size]? = some (.cells #[.int .i64 o, .int .i64 n, .string s, .slice ka ks.length kc, .slice ma ms.length mc] 32 (0, 0))) ∧ Hid (Below w.heap.size w wr)) (fun _ vi _ => ks.length - (intOf vi).toNat)
    case atStart => exact ⟨0, g0, c0, Nat.zero_le _, rfl, rfl, hc0, hg0, HS0, HX0, HB0⟩
    case round =>
      obtain ⟨k, g1, c1, hk, rfl, rfl, hcap, hgs, hS, hX, hb⟩ := hrel
      clear HS0 HX0 HB0
      have hdk := HNB.out k
      have hdk2 := wL_take ks k
      have hlen := putsU_len (namesL (ks.take k)) L0
      have hxl : w.heap.size < wr.heap.size := (Array.getElem?_eq_some_iff.1 hX.out).1
      have ca3 : wr.cell? ⟨w.heap.size, 3, none⟩ = some (Value.slice ka ks.length kc) := by rw [Lib.cell_of_heap hX.out]; rfl
      rcases Nat.lt_or_ge k ks.length with hlt | hge
      · have k1 : (k : Int) < ks.length := by omega
        have k0 : (0 : Int) ≤ k := by omega
        obtain ⟨b, off, rfl, -, hbl, hrow⟩ := (HK.out.kept (same_of_below (N := All) hb.out)).cells (by omega)
        obtain ⟨f, ⟨y0, y1, y2, y3, y4⟩, ht⟩ := hrow k hlt
        have hwk := wL_at hlt
        have hcall := Lib.hid (IH.out ks[k] (List.getElem_mem _) f wr g1 c1 (putsU L0 (namesL (ks.take k))) ht (HOK.out _ (List.getElem_mem _)) hS.out hgs hcap (by omega))
        have HSN : Hid (putsU L0 (namesL (ks.take (k + 1))) = putsU (putsU L0 (namesL (ks.take k))) (namesT ks[k])) := by refine Lib.hid ?_; rw [namesL_take hlt, putsU_app]
        unfold Fld.val PutP at hcall
        generalize putsU L0 (namesL (ks.take k)) = DS at *
        generalize namesT ks[k] = CT at *
        clear hrow ht hbl hS
        go_wp2_with fail
        refine hcall.out.mono ?_
        rintro e w2 ⟨g2, n2, c2, rfl, rfl, hc2, hg2, hS2, d2⟩
        have HS2 := Lib.hid hS2
        have HX2 := Lib.hid ((d2.block _ hxl).trans hX.out)
        have HB2 := Lib.hid (hb.out.trans (d2.mono hb.out.size))
        clear hS2 d2 hcall hX hb y0 y1 y2 y3 y4 ca3
        go_wp2
        go_roundw
        case rel => exact ⟨k + 1, g2, c2, by omega, by go_num, by rw [HSN.out], by rw [HSN.out]; exact hc2, hg2, by rw [HSN.out]; exact HS2, HX2, HB2⟩
        case measure => simp [intOf]; omega
      · obtain rfl : k = ks.length := by omega
        rw [List.take_length] at hS hcap ⊢
        go_wp2
        go_ret
        exact ⟨g1, _, c1, rfl, by rw [HT.out], hcap, hgs, by rw [HT.out]; exact hS.out, hb.out⟩
  | false =>
    have ho2 : ¬ o = 2 := by simpa using ho
    obtain ⟨L0, hL0⟩ : ∃ L0, L0 = l := ⟨_, rfl⟩
    subst hL0
    have hl0 : L0.length + wL ks ≤ 200 := by omega
    have HT : Hid (putsU L0 (namesT (.node o n s ks ms)) = putsU L0 (namesL ks)) := by refine Lib.hid ?_; rw [two_head, if_neg ho2, List.nil_append]
    clear ho2
    go_enter Tryz.func45, Tryz.ntmps45
    go_wp2_with fail
    go_loopw [1, 5] (fun vo vi wr => ∃ (k g c : Nat), k ≤ ks.length ∧ vi = .int .i64 k ∧ vo = .slice (some ⟨g, 0, none⟩) (putsU L0 (namesL (ks.take k))).length c ∧ (putsU L0 (namesL (ks.take k))).length ≤ c ∧ g < wr.heap.size ∧ Hid (Strs wr (some ⟨g, 0, none⟩) (putsU L0 (namesL (ks.take k))).length ((putsU L0 (namesL (ks.take k))).map bsU)) ∧ Hid (wr.heap[w.heap.size]? = some (.cells #[.int .i64 o, .int .i64 n, .string s, .slice ka ks.length kc, .slice ma ms.length mc] 32 (0, 0))) ∧ Hid (Below w.heap.size w wr)) (fun _ vi _ => ks.length - (intOf vi).toNat)
    case atStart => exact ⟨0, g, c, Nat.zero_le _, rfl, rfl, hlc, hgA, HST, HArg, HA⟩
    case round =>
      obtain ⟨k, g1, c1, hk, rfl, rfl, hcap, hgs, hS, hX, hb⟩ := hrel
      clear HST HArg
      have hdk := HNB.out k
      have hdk2 := wL_take ks k
      have hlen := putsU_len (namesL (ks.take k)) L0
      have hxl : w.heap.size < wr.heap.size := (Array.getElem?_eq_some_iff.1 hX.out).1
      have ca3 : wr.cell? ⟨w.heap.size, 3, none⟩ = some (Value.slice ka ks.length kc) := by rw [Lib.cell_of_heap hX.out]; rfl
      rcases Nat.lt_or_ge k ks.length with hlt | hge
      · have k1 : (k : Int) < ks.length := by omega
        have k0 : (0 : Int) ≤ k := by omega
        obtain ⟨b, off, rfl, -, hbl, hrow⟩ := (HK.out.kept (same_of_below (N := All) hb.out)).cells (by omega)
        obtain ⟨f, ⟨y0, y1, y2, y3, y4⟩, ht⟩ := hrow k hlt
        have hwk := wL_at hlt
        have hcall := Lib.hid (IH.out ks[k] (List.getElem_mem _) f wr g1 c1 (putsU L0 (namesL (ks.take k))) ht (HOK.out _ (List.getElem_mem _)) hS.out hgs hcap (by omega))
        have HSN : Hid (putsU L0 (namesL (ks.take (k + 1))) = putsU (putsU L0 (namesL (ks.take k))) (namesT ks[k])) := by refine Lib.hid ?_; rw [namesL_take hlt, putsU_app]
        unfold Fld.val PutP at hcall
        generalize putsU L0 (namesL (ks.take k)) = DS at *
        generalize namesT ks[k] = CT at *
        clear hrow ht hbl hS
        go_wp2_with fail
        refine hcall.out.mono ?_
        rintro e w2 ⟨g2, n2, c2, rfl, rfl, hc2, hg2, hS2, d2⟩
        have HS2 := Lib.hid hS2
        have HX2 := Lib.hid ((d2.block _ hxl).trans hX.out)
        have HB2 := Lib.hid (hb.out.trans (d2.mono hb.out.size))
        clear hS2 d2 hcall hX hb y0 y1 y2 y3 y4 ca3
        go_wp2
        go_roundw
        case rel => exact ⟨k + 1, g2, c2, by omega, by go_num, by rw [HSN.out], by rw [HSN.out]; exact hc2, hg2, by rw [HSN.out]; exact HS2, HX2, HB2⟩
        case measure => simp [intOf]; omega
      · obtain rfl : k = ks.length := by omega
        rw [List.take_length] at hS hcap ⊢
        go_wp2
        go_ret
        exact ⟨g1, _, c1, rfl, by rw [HT.out], hcap, hgs, by rw [HT.out]; exact hS.out, hb.out⟩
theorem namesSC : ∀ (k : Nat) (t : Tr), wT t ≤ k → NamesAtS t
  | 0, .node o n s ks ms, hw => by rw [wT] at hw; omega
  | k + 1, .node o n s ks ms, hw => by
    rw [wT] at hw
    exact namesSN o n s ks ms (fun t ht => namesSC k t (by have := wL_mem ht; omega))
end Go.Proofs.YtgoaajnppadmjaaGreatDoor
