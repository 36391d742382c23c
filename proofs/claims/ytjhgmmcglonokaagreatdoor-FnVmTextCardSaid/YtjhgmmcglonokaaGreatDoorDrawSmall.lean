/-
  What l14Small draws: a rule that is ok, or a name.
-/
import Derived.Test.YtjhgmmcglonokaaGreatDoorDrawRuleN
import Derived.Test.YtjhgmmcglonokaaGreatDoorJ32
namespace Go.Proofs.YtjhgmmcglonokaaGreatDoor
open Go.RowKit
set_option linter.unusedVariables false
set_option linter.unusedSimpArgs false

theorem drawRuleAll : ∀ m, m ≤ 4 → RuleDrawAt m
  | 0, _ => drawRule0 0 rfl
  | m + 1, h => drawRuleN m (drawRuleAll m (by omega)) (by omega)
theorem NB_le {m : Nat} (h : m ≤ 4) : NB m ≤ 341 := by
  have : m = 0 ∨ m = 1 ∨ m = 2 ∨ m = 3 ∨ m = 4 := by omega
  rcases this with rfl | rfl | rfl | rfl | rfl <;> decide
/-- What is drawn is handed on out of a box. -/
theorem fin_small {b p K S q : Nat} {w W : World} {t : Tr} {f : Fld} {cells old : Array Value} {T : TypeId} {fr : Nat × Nat}
    (ht : TrF (fun x => w.heap.size < x) W t f) (hr : Rd b W b q) (hg : w.grownBy W (some b)) (hx : W.heap[w.heap.size]? = some (.cells old T fr)) (hbw : b < w.heap.size)
    (hs : szT t ≤ S) (hq : q ≤ p + K) : DrawnR b p K S w (.returned f.val) (W.setRow w.heap.size cells) := by
  have hl : w.heap.size < W.heap.size := (Array.getElem?_eq_some_iff.1 hx).1
  have hB : Below w.heap.size W (W.setRow w.heap.size cells) := ⟨rfl, rfl, rfl, by simp, fun i hi => setRow_other _ _ _ _ (by omega)⟩
  have hG := grown_setRowT W w.heap.size cells
  refine ⟨t, f, q, rfl, TrF.mono (fun x hx => by omega) _ _ (ht.kept (same_grown hG (fun y hy => by omega))), hs, hr.kept (hB.mono (Nat.le_of_lt hbw)) (hB.block b hbw), hq, ?_⟩
  exact ⟨hB.os.trans hg.os, hB.tape.trans hg.tape, hB.output.trans hg.output, Nat.le_trans hg.size hB.size, fun i hi hne => (hB.block i hi).trans (hg.block i hi hne)⟩
set_option maxRecDepth 100000 in
set_option maxHeartbeats 16000000 in
theorem drawSmall (b p lb cap : Nat) (ss : Nat → ByteArray) (w : World) (hr : Rd b w b p) (hp : p ≤ 10000) (hn : ∀ i, i < 3 → w.cell? ⟨lb, i, none⟩ = some (.string (ss i))) (hlb : lb ≠ b) (hls : lb < w.heap.size) (hns : ∀ i, i < 3 → (ss i).size ≤ 8) :
    Calls Tryz.prog 60 #[.pointer (some ⟨b, 0, none⟩), .slice (some ⟨lb, 0, none⟩) 3 cap] w (DrawnR b p 82000 4092 w) := by
  have HLB := Lib.hid hlb
  have HNS := Lib.hid hns
  have HBL : Hid (b < w.heap.size) := hr.le.2
  have hA : (w.alloc (.cells #[.int .i64 0, .int .i64 0, .string ⟨#[]⟩, .slice none 0 0, .slice none 0 0] 37)).heap[w.heap.size]? = some (.cells #[.int .i64 0, .int .i64 0, .string ⟨#[]⟩, .slice none 0 0, .slice none 0 0] 37) := heap_alloc_new w _
  have X0 := Lib.hid hA
  have R0 := Lib.hid (rd_alloc hr (.cells #[.int .i64 0, .int .i64 0, .string ⟨#[]⟩, .slice none 0 0, .slice none 0 0] 37))
  have G0 := Lib.hid (grown_alloc (w := w) (.cells #[.int .i64 0, .int .i64 0, .string ⟨#[]⟩, .slice none 0 0, .slice none 0 0] 37) (some b))
  have N0 : Hid (∀ i, i < 3 → (w.alloc (.cells #[.int .i64 0, .int .i64 0, .string ⟨#[]⟩, .slice none 0 0, .slice none 0 0] 37)).cell? ⟨lb, i, none⟩ = some (.string (ss i))) := fun i hi => ((Below.refl w.heap.size w).alloc (Nat.le_refl _) _).cell (p := ⟨lb, i, none⟩) hls |>.trans (hn i hi)
  have S0 : w.heap.size < (w.alloc (.cells #[.int .i64 0, .int .i64 0, .string ⟨#[]⟩, .slice none 0 0, .slice none 0 0] 37)).heap.size := by simp
  clear hr hn hns hA hlb
  go_enter Tryz.func60, Tryz.ntmps60
  go_wp2_with fail
  generalize hW0 : (w.alloc (.cells #[.int .i64 0, .int .i64 0, .string ⟨#[]⟩, .slice none 0 0, .slice none 0 0] 37)) = W0 at *
  clear hW0
  go_loopw [5] (fun vk wr => ∃ (k q : Nat), k ≤ 4 ∧ vk = .int .i64 k ∧ Hid (Rd b wr b q) ∧ q ≤ p + k * 20470 ∧ Hid (∀ i, i < 3 → wr.cell? ⟨lb, i, none⟩ = some (.string (ss i))) ∧ Hid (w.grownBy wr (some b)) ∧ Hid (wr.heap[w.heap.size]? = some (.cells #[.int .i64 0, .int .i64 0, .string ⟨#[]⟩, .slice none 0 0, .slice none 0 0] 37 (0, 0)))) (fun vk _ => 4 - (intOf vk).toNat)
  case atStart => exact ⟨0, p, Nat.zero_le _, rfl, R0, by omega, N0, G0, X0⟩
  case round =>
    obtain ⟨k, q, hk, rfl, hR, hq, hN, hG, h0⟩ := hrel
    clear R0 N0 G0 X0
    have hw0 : w.heap.size < wr.heap.size := (Array.getElem?_eq_some_iff.1 h0.out).1
    rcases Nat.lt_or_ge k 4 with hlt | hge
    · have k1 : decide ((k : Int) < 4) = true := decide_eq_true (by omega)
      have kw : IntKind.i64.wrap ((k : Int) + 1) = ((k + 1 : Nat) : Int) := by rw [IntWalk.i64_in _ (by omega)]; omega
      go_wp2_with fail
      refine (pick b b q 3 _ hR.out (by omega) (by omega) (by omega)).mono ?_
      rintro e w1 ⟨x1, a1, b1, rfl, hr1, hg1, -⟩
      have hd1 : IntKind.i64.wrap (1 + x1) = 1 + x1 := IntWalk.i64_in _ (by omega)
      obtain ⟨m, hm, hmx⟩ : ∃ m : Nat, m ≤ 4 ∧ 1 + x1 = 5 - (m : Int) := ⟨(4 - x1).toNat, by omega, by omega⟩
      have hnb := NB_le hm
      have hN1 : ∀ i, i < 3 → w1.cell? ⟨lb, i, none⟩ = some (.string (ss i)) := fun i hi => hg1.cell (hN.out i hi) (by have := HLB.out; first | exact this | exact fun e => this e.symm | (intro e; simp at e; exact this e))
      have hc := drawRuleAll m hm b (q + 1) lb cap (1 + x1) ss w1 hr1 (by omega) hmx hN1 HLB.out (by have := hg1.size; omega) HNS.out
      have HC := Lib.hid hc
      have HG1 := Lib.hid (grown_trans hG.out hg1)
      have H01 := Lib.hid ((hg1.block _ hw0 (fun e => by injection e with e; have := HBL.out; omega)).trans h0.out)
      have HN1 := Lib.hid hN1
      have hs1 : w.heap.size < w1.heap.size := by have := hg1.size; omega
      clear hc hN1 hg1 hr1 hmx
      unfold DrawnR Fld.val at HC
      go_wp2_with fail
      refine HC.out.mono ?_
      rintro e w2 ⟨t, f, p2, rfl, ht, hsz, hr2, hp2, hg2⟩
      have hs2 : w1.heap.size ≤ w2.heap.size := hg2.size
      have hb2 : b < w2.heap.size := hr2.le.2
      have hXb := heap_alloc_new w2 (.cells #[.int .i64 0, .int .i64 0, .string ⟨#[]⟩, .slice none 0 0, .slice none 0 0] 37)
      have hrowX := setRow_heap (w2.alloc (.cells #[.int .i64 0, .int .i64 0, .string ⟨#[]⟩, .slice none 0 0, .slice none 0 0] 37)) w2.heap.size _ (#[.int .i64 f.op, .int .i64 f.num, .string f.name, .slice f.ka f.kl f.kc, .slice f.ma f.ml f.mc]) _ _ hXb
      have hB3 : Below w2.heap.size w2 ((w2.alloc (.cells #[.int .i64 0, .int .i64 0, .string ⟨#[]⟩, .slice none 0 0, .slice none 0 0] 37)).setRow w2.heap.size #[.int .i64 f.op, .int .i64 f.num, .string f.name, .slice f.ka f.kl f.kc, .slice f.ma f.ml f.mc]) := ((Below.refl _ _).alloc (Nat.le_refl _) _).trans ⟨rfl, rfl, rfl, by simp, fun i hi => setRow_other _ _ _ _ (by omega)⟩
      have HX3 := Lib.hid hrowX
      have HB3 := Lib.hid hB3
      have HT3 := Lib.hid ((TrF.mono (N' := fun x => w.heap.size < x) (fun x hx => by have : w1.heap.size ≤ x := hx; omega) _ _ ht).kept (same_of_below hB3))
      have HR3 := Lib.hid (hr2.kept (hB3.mono (Nat.le_of_lt hb2)) (hB3.block b hb2))
      have HG3 := Lib.hid (grown_trans (grown_trans HG1.out hg2) (grown_any hB3 (row := some b)))
      have H03 := Lib.hid ((hB3.block _ (by omega)).trans ((hg2.block _ hs1 (fun e => by injection e with e; have := HBL.out; omega)).trans H01.out))
      have HN3 : Hid (∀ i, i < 3 → ((w2.alloc (.cells #[.int .i64 0, .int .i64 0, .string ⟨#[]⟩, .slice none 0 0, .slice none 0 0] 37)).setRow w2.heap.size #[.int .i64 f.op, .int .i64 f.num, .string f.name, .slice f.ka f.kl f.kc, .slice f.ma f.ml f.mc]).cell? ⟨lb, i, none⟩ = some (.string (ss i))) := fun i hi => (hB3.cell (p := ⟨lb, i, none⟩) (by show lb < w2.heap.size; omega)).trans (hg2.cell (HN1.out i hi) (by have := HLB.out; first | exact this | exact fun e => this e.symm | (intro e; simp at e; exact this e)))
      have HSZ := Lib.hid hsz
      have y0 : ((w2.alloc (.cells #[.int .i64 0, .int .i64 0, .string ⟨#[]⟩, .slice none 0 0, .slice none 0 0] 37)).setRow w2.heap.size #[.int .i64 f.op, .int .i64 f.num, .string f.name, .slice f.ka f.kl f.kc, .slice f.ma f.ml f.mc]).cell? ⟨w2.heap.size, 0, none⟩ = some (.int .i64 f.op) := by rw [Lib.cell_of_heap hrowX]; rfl
      have y1 : ((w2.alloc (.cells #[.int .i64 0, .int .i64 0, .string ⟨#[]⟩, .slice none 0 0, .slice none 0 0] 37)).setRow w2.heap.size #[.int .i64 f.op, .int .i64 f.num, .string f.name, .slice f.ka f.kl f.kc, .slice f.ma f.ml f.mc]).cell? ⟨w2.heap.size, 1, none⟩ = some (.int .i64 f.num) := by rw [Lib.cell_of_heap hrowX]; rfl
      have y2 : ((w2.alloc (.cells #[.int .i64 0, .int .i64 0, .string ⟨#[]⟩, .slice none 0 0, .slice none 0 0] 37)).setRow w2.heap.size #[.int .i64 f.op, .int .i64 f.num, .string f.name, .slice f.ka f.kl f.kc, .slice f.ma f.ml f.mc]).cell? ⟨w2.heap.size, 2, none⟩ = some (.string f.name) := by rw [Lib.cell_of_heap hrowX]; rfl
      have y3 : ((w2.alloc (.cells #[.int .i64 0, .int .i64 0, .string ⟨#[]⟩, .slice none 0 0, .slice none 0 0] 37)).setRow w2.heap.size #[.int .i64 f.op, .int .i64 f.num, .string f.name, .slice f.ka f.kl f.kc, .slice f.ma f.ml f.mc]).cell? ⟨w2.heap.size, 3, none⟩ = some (.slice f.ka f.kl f.kc) := by rw [Lib.cell_of_heap hrowX]; rfl
      have y4 : ((w2.alloc (.cells #[.int .i64 0, .int .i64 0, .string ⟨#[]⟩, .slice none 0 0, .slice none 0 0] 37)).setRow w2.heap.size #[.int .i64 f.op, .int .i64 f.num, .string f.name, .slice f.ka f.kl f.kc, .slice f.ma f.ml f.mc]).cell? ⟨w2.heap.size, 4, none⟩ = some (.slice f.ma f.ml f.mc) := by rw [Lib.cell_of_heap hrowX]; rfl
      clear hrowX hB3 ht hr2 hg2 hsz HC
      go_wp2_with (first
        | (refine wpList_store_row rfl 37 _ _ rfl w2.heap.size #[.int .i64 f.op, .int .i64 f.num, .string f.name, .slice f.ka f.kl f.kc, .slice f.ma f.ml f.mc] rfl rfl 37 #[.int .i64 0, .int .i64 0, .string ⟨#[]⟩, .slice none 0 0, .slice none 0 0] hXb ruleSize rfl (by simp [Value.oneCell']) ?_)
        | fail)
      clear hXb
      generalize (w2.alloc (.cells #[.int .i64 0, .int .i64 0, .string ⟨#[]⟩, .slice none 0 0, .slice none 0 0] 37)).setRow w2.heap.size #[.int .i64 f.op, .int .i64 f.num, .string f.name, .slice f.ka f.kl f.kc, .slice f.ma f.ml f.mc] = W3 at *
      have hok := specRuleOk (TrF.mono (N' := All) (fun _ _ => trivial) _ _ HT3.out) (by have := HSZ.out; omega)
      unfold Fld.val at hok
      have HOK := Lib.hid hok
      clear hok
      refine HOK.out.mono ?_
      rintro e w4 ⟨rfl, d4⟩
      have hX3l : w2.heap.size < W3.heap.size := (Array.getElem?_eq_some_iff.1 HX3.out).1
      have HX4 := Lib.hid ((d4.block _ hX3l).trans HX3.out)
      have HT4 := Lib.hid (HT3.out.kept (same_of_below d4))
      have hb3 : b < W3.heap.size := HR3.out.le.2
      have HR4 := Lib.hid (HR3.out.kept (d4.mono (Nat.le_of_lt hb3)) (d4.block b hb3))
      have HG4 := Lib.hid (grown_trans HG3.out (grown_any d4 (row := some b)))
      have H04 := Lib.hid ((d4.block _ (Array.getElem?_eq_some_iff.1 H03.out).1).trans H03.out)
      have HN4 : Hid (∀ i, i < 3 → w4.cell? ⟨lb, i, none⟩ = some (.string (ss i))) := fun i hi => (d4.cell (p := ⟨lb, i, none⟩) (World.block_lt_of_cell? W3 ⟨lb, i, none⟩ (HN3.out i hi))).trans (HN3.out i hi)
      clear HX3 HT3 HR3 HG3 H03 HN3 y0 y1 y2 y3 y4 d4
      generalize decide (okR t) = ok at *
      cases ok with
      | true =>
        have y0 : w4.cell? ⟨w2.heap.size, 0, none⟩ = some (.int .i64 f.op) := by rw [Lib.cell_of_heap HX4.out]; rfl
        have y1 : w4.cell? ⟨w2.heap.size, 1, none⟩ = some (.int .i64 f.num) := by rw [Lib.cell_of_heap HX4.out]; rfl
        have y2 : w4.cell? ⟨w2.heap.size, 2, none⟩ = some (.string f.name) := by rw [Lib.cell_of_heap HX4.out]; rfl
        have y3 : w4.cell? ⟨w2.heap.size, 3, none⟩ = some (.slice f.ka f.kl f.kc) := by rw [Lib.cell_of_heap HX4.out]; rfl
        have y4 : w4.cell? ⟨w2.heap.size, 4, none⟩ = some (.slice f.ma f.ml f.mc) := by rw [Lib.cell_of_heap HX4.out]; rfl
        have hres := H04.out
        have hfin : (w4.setRow w.heap.size #[.int .i64 f.op, .int .i64 f.num, .string f.name, .slice f.ka f.kl f.kc, .slice f.ma f.ml f.mc]).heap[w.heap.size]? = some (.cells #[.int .i64 f.op, .int .i64 f.num, .string f.name, .slice f.ka f.kl f.kc, .slice f.ma f.ml f.mc] 37 (0, 0)) := setRow_heap _ w.heap.size _ _ _ _ hres
        have hpost : DrawnR b p 82000 4092 w (.returned f.val) (w4.setRow w.heap.size #[.int .i64 f.op, .int .i64 f.num, .string f.name, .slice f.ka f.kl f.kc, .slice f.ma f.ml f.mc]) := fin_small HT4.out HR4.out HG4.out hres HBL.out (by have := HSZ.out; omega) (by omega)
        go_wp2_with (first
          | (refine wpList_store_row rfl 37 _ _ rfl w.heap.size #[.int .i64 f.op, .int .i64 f.num, .string f.name, .slice f.ka f.kl f.kc, .slice f.ma f.ml f.mc] rfl rfl 37 #[.int .i64 0, .int .i64 0, .string ⟨#[]⟩, .slice none 0 0, .slice none 0 0] hres ruleSize rfl (by simp [Value.oneCell']) ?_)
          | fail)
        generalize w4.setRow w.heap.size #[.int .i64 f.op, .int .i64 f.num, .string f.name, .slice f.ka f.kl f.kc, .slice f.ma f.ml f.mc] = WF at *
        have v0 : WF.cell? ⟨w.heap.size, 0, none⟩ = some (.int .i64 f.op) := by rw [Lib.cell_of_heap hfin]; rfl
        have v1 : WF.cell? ⟨w.heap.size, 1, none⟩ = some (.int .i64 f.num) := by rw [Lib.cell_of_heap hfin]; rfl
        have v2 : WF.cell? ⟨w.heap.size, 2, none⟩ = some (.string f.name) := by rw [Lib.cell_of_heap hfin]; rfl
        have v3 : WF.cell? ⟨w.heap.size, 3, none⟩ = some (.slice f.ka f.kl f.kc) := by rw [Lib.cell_of_heap hfin]; rfl
        have v4 : WF.cell? ⟨w.heap.size, 4, none⟩ = some (.slice f.ma f.ml f.mc) := by rw [Lib.cell_of_heap hfin]; rfl
        have HP := Lib.hid hpost
        clear hfin hpost hres y0 y1 y2 y3 y4
        refine bodyPost_ret (v := f.val) ?_ rfl HP.out
        unfold Fld.val
        rw [results_cell1 rfl]
        go_simp
        all_goals rfl
      | false =>
        go_wp2
        go_roundw
        case rel => exact ⟨k + 1, p2, by omega, by first | rfl | go_num | (rw [← kw]), HR4, by omega, HN4, HG4, H04⟩
        case measure => simp [intOf]; omega
    · obtain rfl : k = 4 := by omega
      have k1 : decide (((4 : Nat) : Int) < 4) = false := rfl
      have c0 := hN.out 0 (by omega)
      have hres := h0.out
      have hfin : (wr.setRow w.heap.size #[.int .i64 2, .int .i64 0, .string (ss 0), .slice none 0 0, .slice none 0 0]).heap[w.heap.size]? = some (.cells #[.int .i64 2, .int .i64 0, .string (ss 0), .slice none 0 0, .slice none 0 0] 37 (0, 0)) := setRow_heap _ w.heap.size _ _ _ _ hres
      have hpost : DrawnR b p 82000 4092 w (.returned (Fld.val ⟨2, 0, ss 0, none, 0, 0, none, 0, 0⟩)) (wr.setRow w.heap.size #[.int .i64 2, .int .i64 0, .string (ss 0), .slice none 0 0, .slice none 0 0]) := fin_small (leaf_tr 2 0 (ss 0)) hR.out hG.out hres HBL.out (by simp only [szT, List.length_nil, szL]; have := HNS.out 0 (by omega); omega) (by omega)
      go_wp2_with (first
        | (refine wpList_store_row rfl 37 _ _ rfl w.heap.size #[.int .i64 2, .int .i64 0, .string (ss 0), .slice none 0 0, .slice none 0 0] rfl rfl 37 #[.int .i64 0, .int .i64 0, .string ⟨#[]⟩, .slice none 0 0, .slice none 0 0] hres ruleSize rfl (by simp [Value.oneCell']) ?_)
        | fail)
      generalize wr.setRow w.heap.size #[.int .i64 2, .int .i64 0, .string (ss 0), .slice none 0 0, .slice none 0 0] = WF at *
      have v0 : WF.cell? ⟨w.heap.size, 0, none⟩ = some (.int .i64 2) := by rw [Lib.cell_of_heap hfin]; rfl
      have v1 : WF.cell? ⟨w.heap.size, 1, none⟩ = some (.int .i64 0) := by rw [Lib.cell_of_heap hfin]; rfl
      have v2 : WF.cell? ⟨w.heap.size, 2, none⟩ = some (.string (ss 0)) := by rw [Lib.cell_of_heap hfin]; rfl
      have v3 : WF.cell? ⟨w.heap.size, 3, none⟩ = some (.slice none 0 0) := by rw [Lib.cell_of_heap hfin]; rfl
      have v4 : WF.cell? ⟨w.heap.size, 4, none⟩ = some (.slice none 0 0) := by rw [Lib.cell_of_heap hfin]; rfl
      have HP := Lib.hid hpost
      clear hfin hpost hres c0
      refine bodyPost_ret (v := Fld.val ⟨2, 0, ss 0, none, 0, 0, none, 0, 0⟩) ?_ rfl HP.out
      unfold Fld.val
      rw [results_cell1 rfl]
      go_simp
      all_goals rfl
end Go.Proofs.YtjhgmmcglonokaaGreatDoor
