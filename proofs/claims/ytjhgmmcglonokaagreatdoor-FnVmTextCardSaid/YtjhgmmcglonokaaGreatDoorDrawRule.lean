/-
  What l14Rule draws: a rule in new memory; all that was there stays, but for the reader.
-/
import Derived.Test.YtjhgmmcglonokaaGreatDoorDrawMarksR
import Derived.Test.YtjhgmmcglonokaaGreatDoorJ40
import Derived.Test.YtjhgmmcglonokaaGreatDoorJ15
namespace Go.Proofs.YtjhgmmcglonokaaGreatDoor
open Go.RowKit
set_option linter.unusedVariables false
set_option linter.unusedSimpArgs false

def NB : Nat → Nat
  | 0 => 1
  | m + 1 => 1 + 4 * NB m
theorem NB_pos : ∀ m, 1 ≤ NB m
  | 0 => by simp [NB]
  | m + 1 => by rw [NB]; omega
def DrawnR (b p K S : Nat) (w : World) (e : Ending) (w' : World) : Prop :=
  ∃ (t : Tr) (f : Fld) (p' : Nat), e = .returned f.val ∧ TrF (fun x => w.heap.size ≤ x) w' t f ∧ szT t ≤ S ∧ Rd b w' b p' ∧ p' ≤ p + K ∧ w.grownBy w' (some b)
theorem ruleSize : (Tryz.prog.info? 37).map (·.size) = some 5 := by kernel_rfl
theorem results_cell1 {fn : Func} {p : Tmp} {ty : TypeId} (h : fn.results = #[.cell p ty]) (tmps : Array Value) (P : Program) (w : World) :
    (results fn tmps).run P w = ((asAddr (tmps.getD p undef)).run P w).andThen fun a w₁ => (loadVar ty a).run P w₁ := by
  simp only [results, h]
  simp [Sem.run_bind, Result.andThen]
theorem leaf_tr {N : Nat → Prop} {w : World} (o n : Int) (s : ByteArray) : TrF N w (.node o n s [] []) ⟨o, n, s, none, 0, 0, none, 0, 0⟩ :=
  trF_iff.2 ⟨rfl, rfl, rfl, ⟨rfl, Or.inl rfl⟩, ⟨rfl, Or.inl rfl⟩, Nat.le_refl _, Nat.le_refl _⟩
theorem leaf_done {b p q K S : Nat} {w W : World} {o n : Int} {s : ByteArray} {old cells : Array Value} {T : TypeId} {fr : Nat × Nat} (hr : Rd b W b q) (hg : w.grownBy W (some b)) (hx : W.heap[w.heap.size]? = some (.cells old T fr)) (hbl : b < w.heap.size) (hs : szT (.node o n s [] []) ≤ 12) (hq : q ≤ p + K) (hS : 12 ≤ S) :
    DrawnR b p K S w (.returned (Fld.val ⟨o, n, s, none, 0, 0, none, 0, 0⟩)) (W.setRow w.heap.size cells) := by
  have hl : w.heap.size < W.heap.size := (Array.getElem?_eq_some_iff.1 hx).1
  have hbW := hr.le
  have hbw : b < w.heap.size := hbl
  have hB : Below w.heap.size W (W.setRow w.heap.size cells) := ⟨rfl, rfl, rfl, by simp, fun i hi => setRow_other _ _ _ _ (by omega)⟩
  refine ⟨_, _, q, rfl, leaf_tr o n s, Nat.le_trans hs hS, hr.kept (hB.mono (Nat.le_of_lt hbw)) (hB.block b hbw), hq, ?_⟩
  exact ⟨hB.os.trans hg.os, hB.tape.trans hg.tape, hB.output.trans hg.output, Nat.le_trans hg.size hB.size, fun i hi hne => (hB.block i hi).trans (hg.block i hi hne)⟩
def RuleDrawAt (m : Nat) : Prop := ∀ (b p lb cap : Nat) (dd : Int) (ss : Nat → ByteArray) (w : World), Rd b w b p → p + 60 * NB m ≤ 100000 → dd = 5 - m → (∀ i, i < 3 → w.cell? ⟨lb, i, none⟩ = some (.string (ss i))) → lb ≠ b → lb < w.heap.size → (∀ i, i < 3 → (ss i).size ≤ 8) →
  Calls Tryz.prog 100 #[.pointer (some ⟨b, 0, none⟩), .int .i64 dd, .slice (some ⟨lb, 0, none⟩) 3 cap] w (DrawnR b p (60 * NB m) (12 * NB m) w)
set_option maxRecDepth 100000 in
set_option maxHeartbeats 16000000 in
theorem drawRule0 (m : Nat) (hm : m = 0) : RuleDrawAt m := by
  intro b p lb cap dd ss w hr hp hd hn hlb hls hns
  obtain rfl : dd = 5 := by omega
  have HLB := Lib.hid hlb
  have HNS := Lib.hid hns
  have HBL : Hid (b < w.heap.size) := hr.le.2
  have hA : (w.alloc (.cells #[.int .i64 0, .int .i64 0, .string ⟨#[]⟩, .slice none 0 0, .slice none 0 0] 37)).heap[w.heap.size]? = some (.cells #[.int .i64 0, .int .i64 0, .string ⟨#[]⟩, .slice none 0 0, .slice none 0 0] 37 (0, 0)) := heap_alloc_new w _
  have X0 := Lib.hid hA
  have HR0 := Lib.hid (rd_alloc hr (.cells #[.int .i64 0, .int .i64 0, .string ⟨#[]⟩, .slice none 0 0, .slice none 0 0] 37))
  have G0 := Lib.hid (grown_alloc (w := w) (.cells #[.int .i64 0, .int .i64 0, .string ⟨#[]⟩, .slice none 0 0, .slice none 0 0] 37) (some b))
  have N0 : Hid (∀ i, i < 3 → (w.alloc (.cells #[.int .i64 0, .int .i64 0, .string ⟨#[]⟩, .slice none 0 0, .slice none 0 0] 37)).cell? ⟨lb, i, none⟩ = some (.string (ss i))) := fun i hi => ((Below.refl w.heap.size w).alloc (Nat.le_refl _) _).cell (p := ⟨lb, i, none⟩) hls |>.trans (hn i hi)
  obtain ⟨q0, hq0, HR0⟩ : ∃ q0, q0 ≤ p ∧ Hid (Rd b (w.alloc (.cells #[.int .i64 0, .int .i64 0, .string ⟨#[]⟩, .slice none 0 0, .slice none 0 0] 37)) b q0) := ⟨p, Nat.le_refl _, HR0⟩
  have hnb := NB_pos m
  clear hr hn hns hA hm hd hlb
  go_enter Tryz.func100, Tryz.ntmps100
  go_wp2_with fail
  refine (pick b b q0 2 _ HR0.out (by omega) (by omega) (by omega)).mono ?_
  rintro e w1 ⟨x1, a1, b1, rfl, hr1, hg1, -⟩
  have HR1 := Lib.hid hr1
  have G1 := Lib.hid (grown_trans G0.out hg1)
  have X1 := Lib.hid ((hg1.block _ (Array.getElem?_eq_some_iff.1 X0.out).1 (fun e => by injection e with e; have := HBL.out; omega)).trans X0.out)
  have N1 : Hid (∀ i, i < 3 → w1.cell? ⟨lb, i, none⟩ = some (.string (ss i))) := fun i hi => hg1.cell (N0.out i hi) (by have := HLB.out; first | exact this | exact fun e => this e.symm | (intro e; simp at e; exact this e))
  clear hr1 hg1 HR0 G0 X0 N0
  cases hx : (x1 == 0) with
  | true =>
    go_wp2_with fail
    refine (pickOf b b (q0 + 1) 3 lb cap ss _ HR1.out (by omega) (by omega) (by omega) N1.out HLB.out).mono ?_
    rintro e w2 ⟨i, hi, rfl, hr2, hg2, -⟩
    have HR2 := Lib.hid hr2
    have G2 := Lib.hid (grown_trans G1.out hg2)
    have X2 := Lib.hid ((hg2.block _ (Array.getElem?_eq_some_iff.1 X1.out).1 (fun e => by injection e with e; have := HBL.out; omega)).trans X1.out)
    have HS := Lib.hid (HNS.out i hi)
    clear hr2 hg2 HR1 G1 X1 N1
    generalize ss i = s at *
    have hres := X2.out
    go_wp2_with (first
      | (refine wpList_store_row rfl 37 _ _ rfl w.heap.size #[.int .i64 2, .int .i64 0, .string s, .slice none 0 0, .slice none 0 0] rfl rfl 37 #[.int .i64 0, .int .i64 0, .string ⟨#[]⟩, .slice none 0 0, .slice none 0 0] hres ruleSize rfl (by simp [Value.oneCell']) ?_)
      | fail)
    have hfin : (w2.setRow w.heap.size #[.int .i64 2, .int .i64 0, .string s, .slice none 0 0, .slice none 0 0]).heap[w.heap.size]? = some (.cells #[.int .i64 2, .int .i64 0, .string s, .slice none 0 0, .slice none 0 0] 37 (0, 0)) := setRow_heap w2 w.heap.size _ _ _ _ hres
    have hpost : DrawnR b p (60 * NB m) (12 * NB m) w (.returned (Fld.val ⟨2, 0, s, none, 0, 0, none, 0, 0⟩)) (w2.setRow w.heap.size #[.int .i64 2, .int .i64 0, .string s, .slice none 0 0, .slice none 0 0]) := leaf_done HR2.out G2.out hres HBL.out (by simp only [szT, List.length_nil, szL]; have := HS.out; omega) (by have := NB_pos m; omega) (by have := NB_pos m; omega)
    generalize w2.setRow w.heap.size #[.int .i64 2, .int .i64 0, .string s, .slice none 0 0, .slice none 0 0] = WF at *
    have v0 : WF.cell? ⟨w.heap.size, 0, none⟩ = some (.int .i64 2) := by rw [Lib.cell_of_heap hfin]; rfl
    have v1 : WF.cell? ⟨w.heap.size, 1, none⟩ = some (.int .i64 0) := by rw [Lib.cell_of_heap hfin]; rfl
    have v2 : WF.cell? ⟨w.heap.size, 2, none⟩ = some (.string s) := by rw [Lib.cell_of_heap hfin]; rfl
    have v3 : WF.cell? ⟨w.heap.size, 3, none⟩ = some (.slice none 0 0) := by rw [Lib.cell_of_heap hfin]; rfl
    have v4 : WF.cell? ⟨w.heap.size, 4, none⟩ = some (.slice none 0 0) := by rw [Lib.cell_of_heap hfin]; rfl
    have HP := Lib.hid hpost
    clear hfin hpost hres
    refine bodyPost_ret (v := Fld.val ⟨2, 0, s, none, 0, 0, none, 0, 0⟩) ?_ rfl HP.out
    unfold Fld.val
    rw [results_cell1 rfl]
    go_simp
    all_goals rfl
  | false =>
    go_wp2_with fail
    refine (pick b b (q0 + 1) 40 _ HR1.out (by omega) (by omega) (by omega)).mono ?_
    rintro e w2 ⟨x2, a2, b2, rfl, hr2, hg2, -⟩
    go_wp2_with fail
    refine (pick b b (q0 + 1 + 1) 9 _ hr2 (by omega) (by omega) (by omega)).mono ?_
    rintro e w3 ⟨x3, a3, b3, rfl, hr3, hg3, -⟩
    have e3 : IntKind.i64.wrap (x3 - 4) = x3 - 4 := IntWalk.i64_in _ (by omega)
    go_wp2_with fail
    refine (pick b b (q0 + 1 + 1 + 1) 3 _ hr3 (by omega) (by omega) (by omega)).mono ?_
    rintro e w4 ⟨x4, a4, b4, rfl, hr4, hg4, -⟩
    have G4 := Lib.hid (grown_trans G1.out (grown_trans hg2 (grown_trans hg3 hg4)))
    have X4 := Lib.hid (((grown_trans hg2 (grown_trans hg3 hg4)).block _ (Array.getElem?_eq_some_iff.1 X1.out).1 (fun e => by injection e with e; have := HBL.out; omega)).trans X1.out)
    have HR4 := Lib.hid hr4
    have hbs : b < w4.heap.size := hr4.le.2
    clear hr2 hr3 hr4 hg2 hg3 hg4 HR1 G1 X1 N1
    go_wp2_with fail
    refine (pick b b (q0 + 1 + 1 + 1 + 1) 5 _ (rd_alloc HR4.out _) (by omega) (by omega) (by omega)).mono ?_
    rintro e w5 ⟨x5, a5, b5, rfl, hr5, hg5, -⟩
    obtain ⟨i, rfl⟩ := Int.eq_ofNat_of_zero_le a5
    have q1 : (i : Int) < 5 := b5
    have q2 : 0 ≤ (i : Int) := a5
    obtain ⟨y, y1, y2, c1⟩ := one_of w4.heap.size rfl [x2, x3 - 4, 100, 1000000000, x4] rfl (-4) 1000000000 (by intro v hv; simp at hv; omega) i (by simp; omega) hg5 (by omega)
    have GA : w4.grownBy w5 (some b) := grown_trans (grown_alloc _ (some b)) hg5
    have G5 := Lib.hid (grown_trans G4.out GA)
    have X5 := Lib.hid ((GA.block _ (Array.getElem?_eq_some_iff.1 X4.out).1 (fun e => by injection e with e; have := HBL.out; omega)).trans X4.out)
    have HR5 := Lib.hid hr5
    clear hr5 hg5 HR4 G4 X4 GA
    have hres := X5.out
    go_wp2_with (first
      | (refine wpList_store_row rfl 37 _ _ rfl w.heap.size #[.int .i64 1, .int .i64 y, .string ⟨#[]⟩, .slice none 0 0, .slice none 0 0] rfl rfl 37 #[.int .i64 0, .int .i64 0, .string ⟨#[]⟩, .slice none 0 0, .slice none 0 0] hres ruleSize rfl (by simp [Value.oneCell']) ?_)
      | fail)
    have hfin : (w5.setRow w.heap.size #[.int .i64 1, .int .i64 y, .string ⟨#[]⟩, .slice none 0 0, .slice none 0 0]).heap[w.heap.size]? = some (.cells #[.int .i64 1, .int .i64 y, .string ⟨#[]⟩, .slice none 0 0, .slice none 0 0] 37 (0, 0)) := setRow_heap w5 w.heap.size _ _ _ _ hres
    have hpost : DrawnR b p (60 * NB m) (12 * NB m) w (.returned (Fld.val ⟨1, y, ⟨#[]⟩, none, 0, 0, none, 0, 0⟩)) (w5.setRow w.heap.size #[.int .i64 1, .int .i64 y, .string ⟨#[]⟩, .slice none 0 0, .slice none 0 0]) := leaf_done HR5.out G5.out hres HBL.out (by simp only [szT, List.length_nil, szL]; decide) (by have := NB_pos m; omega) (by have := NB_pos m; omega)
    generalize w5.setRow w.heap.size #[.int .i64 1, .int .i64 y, .string ⟨#[]⟩, .slice none 0 0, .slice none 0 0] = WF at *
    have v0 : WF.cell? ⟨w.heap.size, 0, none⟩ = some (.int .i64 1) := by rw [Lib.cell_of_heap hfin]; rfl
    have v1 : WF.cell? ⟨w.heap.size, 1, none⟩ = some (.int .i64 y) := by rw [Lib.cell_of_heap hfin]; rfl
    have v2 : WF.cell? ⟨w.heap.size, 2, none⟩ = some (.string ⟨#[]⟩) := by rw [Lib.cell_of_heap hfin]; rfl
    have v3 : WF.cell? ⟨w.heap.size, 3, none⟩ = some (.slice none 0 0) := by rw [Lib.cell_of_heap hfin]; rfl
    have v4 : WF.cell? ⟨w.heap.size, 4, none⟩ = some (.slice none 0 0) := by rw [Lib.cell_of_heap hfin]; rfl
    have HP := Lib.hid hpost
    clear hfin hpost hres
    refine bodyPost_ret (v := Fld.val ⟨1, y, ⟨#[]⟩, none, 0, 0, none, 0, 0⟩) ?_ rfl HP.out
    unfold Fld.val
    rw [results_cell1 rfl]
    go_simp
    all_goals rfl
end Go.Proofs.YtjhgmmcglonokaaGreatDoor
