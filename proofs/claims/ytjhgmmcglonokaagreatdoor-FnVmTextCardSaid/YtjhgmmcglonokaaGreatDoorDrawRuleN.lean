/-
  l14Rule at a depth below five.
-/
import Derived.Test.YtjhgmmcglonokaaGreatDoorDrawRule
import Derived.Test.YtjhgmmcglonokaaGreatDoorJ25
import Derived.Test.YtjhgmmcglonokaaGreatDoorJ15
import Derived.Deep.DeepMust
import Derived.Deep.RegionWith
import Derived.Deep.RegionLaw
import Derived.Deep.AppendLies
namespace Go.Proofs.YtjhgmmcglonokaaGreatDoor
open Go.RowKit
set_option linter.unusedVariables false
set_option linter.unusedSimpArgs false
def KidR (b X q K S : Nat) (wr w3 : World) (t : Tr) (f : Fld) : Prop := (∃ p3, Rd b w3 b p3 ∧ p3 ≤ q + K) ∧ TrF (fun x => wr.drew.heap.size ≤ x) w3 t f ∧ szT t ≤ S ∧ wr.grownBy w3 (some b)
theorem cell3 {w : World} {X : Nat} {a0 a1 a2 a3 a4 : Value} {T : TypeId} (h : w.heap[X]? = some (.cells #[a0, a1, a2, a3, a4] T (0, 0))) : w.cell? ⟨X, 3, none⟩ = some a3 := by rw [Lib.cell_of_heap h]; rfl
theorem kid_far {w w5 : World} {X len : Nat} {v : Value} {o ob : Obj} (h : w.heap[X]? = some o) (hg : (w.alloc ob).grownBy w5 v.ownBlock) (hv : ∀ g, v.ownBlock = some g → X + 1 ≤ g ∧ g < len) (hl : X < w.heap.size) : w5.heap[X]? = some o :=
  (hg.block X (by simp only [World.size_alloc]; omega) (fun e => by have := (hv X e.symm).1; omega)).trans ((Lib.alloc_old w ob X hl).trans h)
theorem kid_next {b X q K S lb : Nat} {w wr w3 w5 : World} {a : Option Addr} {c : Nat} {ts : List Tr} {fs : List Fld} {t : Tr} {f : Fld} {g cap : Nat} {o : Int} {ss : Nat → ByteArray} {R0 : Obj}
    (hK : KidR b X q K S wr w3 t f) (hbw : b < w.heap.size) (hwX : w.heap.size < X) (hXr : X < wr.heap.size) (hX3 : w3.heap[X]? = some (.cells #[.int .i64 o, .int .i64 0, .string ⟨#[]⟩, .slice a ts.length c, .slice none 0 0] 37 (0, 0)))
    (hfl : fs.length = ts.length) (ho3 : w3.ownsRow (X + 1) 37 5 (.slice a ts.length c) ts.length (rowsR fs)) (ht : ∀ j, (h : j < ts.length) → ∃ f, fs[j]? = some f ∧ TrF (fun x => X + 1 ≤ x ∧ (Value.slice a ts.length c).ownBlock ≠ some x) wr ts[j] f)
    (hgl : ∀ g, (Value.slice a ts.length c).ownBlock = some g → X + 1 ≤ g ∧ g < wr.heap.size)
    (hown : w5.ownsRow (X + 1) 37 5 (.slice (some ⟨g, 0, none⟩) (ts.length + 1) cap) (ts.length + 1) (rowsR fs ++ rowR f))
    (hgr : (w3.alloc (.cells #[.int .i64 f.op, .int .i64 f.num, .string f.name, .slice f.ka f.kl f.kc, .slice f.ma f.ml f.mc] 37)).grownBy w5 (Value.slice a ts.length c).ownBlock) (hat : (Value.slice a ts.length c).ownBlock = some g ∨ g = w3.heap.size + 1)
    (hG : w.grownBy wr (some b)) (h0 : wr.heap[w.heap.size]? = some R0) (hn : ∀ i, i < 3 → wr.cell? ⟨lb, i, none⟩ = some (.string (ss i))) (hlb : lb ≠ b) (hlw : lb < w.heap.size) :
    (w5.setCell ⟨X, 3, none⟩ (.slice (some ⟨g, 0, none⟩) (ts.length + 1) cap)).heap[X]? = some (.cells #[.int .i64 o, .int .i64 0, .string ⟨#[]⟩, .slice (some ⟨g, 0, none⟩) (ts ++ [t]).length cap, .slice none 0 0] 37 (0, 0)) ∧
    KidsO (X + 1) (w5.setCell ⟨X, 3, none⟩ (.slice (some ⟨g, 0, none⟩) (ts.length + 1) cap)) (.slice (some ⟨g, 0, none⟩) (ts ++ [t]).length cap) (ts ++ [t]) ∧
    (∃ q', Rd b (w5.setCell ⟨X, 3, none⟩ (.slice (some ⟨g, 0, none⟩) (ts.length + 1) cap)) b q' ∧ q' ≤ q + K) ∧
    (∀ i, i < 3 → (w5.setCell ⟨X, 3, none⟩ (.slice (some ⟨g, 0, none⟩) (ts.length + 1) cap)).cell? ⟨lb, i, none⟩ = some (.string (ss i))) ∧
    w.grownBy (w5.setCell ⟨X, 3, none⟩ (.slice (some ⟨g, 0, none⟩) (ts.length + 1) cap)) (some b) ∧
    (w5.setCell ⟨X, 3, none⟩ (.slice (some ⟨g, 0, none⟩) (ts.length + 1) cap)).heap[w.heap.size]? = some R0 := by
  obtain ⟨⟨p3, hr3, hp3⟩, ht3, hs3, hg3⟩ := hK
  have hsz3 : wr.heap.size ≤ w3.heap.size := hg3.size
  have hsA : (w3.alloc (.cells #[.int .i64 f.op, .int .i64 f.num, .string f.name, .slice f.ka f.kl f.kc, .slice f.ma f.ml f.mc] 37)).heap.size = w3.heap.size + 1 := by simp only [World.size_alloc]
  have hBA : Below w3.heap.size w3 (w3.alloc (.cells #[.int .i64 f.op, .int .i64 f.num, .string f.name, .slice f.ka f.kl f.kc, .slice f.ma f.ml f.mc] 37)) := (Below.refl _ _).alloc (Nat.le_refl _) _
  generalize (w3.alloc (.cells #[.int .i64 f.op, .int .i64 f.num, .string f.name, .slice f.ka f.kl f.kc, .slice f.ma f.ml f.mc] 37)) = wA at *
  have hX5 : w5.heap[X]? = some (.cells #[.int .i64 o, .int .i64 0, .string ⟨#[]⟩, .slice a ts.length c, .slice none 0 0] 37 (0, 0)) := (hgr.block X (by omega) (fun e => by have := (hgl X e.symm).1; omega)).trans ((hBA.block X (by omega)).trans hX3)
  have hX6 : (w5.setCell ⟨X, 3, none⟩ (.slice (some ⟨g, 0, none⟩) (ts.length + 1) cap)).heap[X]? = some (.cells #[.int .i64 o, .int .i64 0, .string ⟨#[]⟩, .slice (some ⟨g, 0, none⟩) (ts.length + 1) cap, .slice none 0 0] 37 (0, 0)) := by simp [World.setCell, Array.getElem?_modify, hX5]
  have gS := grown_set w5 ⟨X, 3, none⟩ (.slice (some ⟨g, 0, none⟩) (ts.length + 1) cap)
  generalize (w5.setCell ⟨X, 3, none⟩ (.slice (some ⟨g, 0, none⟩) (ts.length + 1) cap)) = W6 at *
  have far : ∀ y, y < w.heap.size + 1 → y < wr.heap.size → y ≠ b → W6.heap[y]? = wr.heap[y]? := fun y hy hyr hyb => by
    have e1 := gS.block y (by have := hgr.size; omega) (by intro e; injection e with e; have : y = X := e; omega)
    have e2 := hgr.block y (by omega) (fun e => by have := (hgl y e.symm).1; omega)
    have e3 := hBA.block y (by omega)
    have e4 := hg3.block y hyr (fun e => by injection e with e; exact hyb e)
    rw [e1, e2, e3, e4]
  have hw1 : w.heap.size < wr.heap.size := by omega
  have htl : (ts ++ [t]).length = ts.length + 1 := by simp
  refine ⟨by rw [htl]; exact hX6, ?_, ⟨p3, ?_, hp3⟩, fun i hi => ?_, ?_, ?_⟩
  · have hv : ∀ j, (h : j < ts.length) → ∃ f, fs[j]? = some f ∧ TrF (fun x => X + 1 ≤ x ∧ (Value.slice a ts.length c).ownBlock ≠ some x) wA ts[j] f := fun j hj => by
      obtain ⟨f', e, k⟩ := ht j hj
      exact ⟨f', e, (k.kept ⟨hg3.size, fun y hy hl => hg3.block y hl (fun e => by injection e with e; have := hy.1; omega)⟩).kept (same_of_below hBA)⟩
    have hnew : TrF (fun x => X + 1 ≤ x ∧ (Value.slice a ts.length c).ownBlock ≠ some x) wA t f := TrF.mono (fun y hy => by
      have hy' : wr.heap.size ≤ y := hy
      exact ⟨by omega, fun e => by have := (hgl y e).2; omega⟩) _ _ (ht3.kept (same_of_below hBA))
    have := KidsO.snoc hfl (own_rowKept (row := none) ho3 (grown_any hBA) (fun b e => by cases e)) hv hnew hown hgr (by rw [hsA]; exact hat)
    exact this.kept gS (fun b e => by injection e with e; have : X = b := e; omega)
  · have hb3 := hr3.le.2
    have e1 := gS.block b (by have := hgr.size; omega) (by intro e; injection e with e; have : b = X := e; omega)
    have e2 := hgr.block b (by omega) (fun e => by have := (hgl b e.symm).1; omega)
    have hB36 : Below b w3 W6 := ((hBA.mono (by omega)).grown hgr (by omega) (fun k e => by have := (hgl k e).1; omega)).grown gS (by have := hgr.size; omega) (fun k e => by injection e with e; have : X = k := e; omega)
    exact hr3.kept hB36 (e1.trans (e2.trans (hBA.block b hb3)))
  · exact (World.cell?_of_block (a := ⟨lb, i, none⟩) (far lb (by omega) (by omega) hlb)).trans (hn i hi)
  · have g1 : w.grownBy w3 (some b) := grown_trans hG hg3
    have g2 : w.grownBy wA (some b) := grown_trans g1 (grown_any hBA)
    have g3 := grown_ownM g2 hgr (fun g e => by have := (hgl g e).1; left; omega)
    exact grown_ownM g3 gS (fun k e => by injection e with e; have : X = k := e; left; omega)
  · exact (far _ (by omega) hw1 (by omega)).trans h0
theorem szL_snoc (ts : List Tr) (t : Tr) : szL (ts ++ [t]) = szL ts + szT t := by
  induction ts with
  | nil => simp [szL]
  | cons x r ih => simp only [List.cons_append, szL, ih]; omega
theorem fin_rule {b p K S q X : Nat} {w W : World} {o : Int} {a ma : Option Addr} {c ml mc : Nat} {ts : List Tr} {ms : List (Int × Int)} {cells old : Array Value} {T : TypeId} {fr : Nat × Nat}
    (hk : KidsO (X + 1) W (.slice a ts.length c) ts) (hm : MarksN (fun x => X + 1 ≤ x) W ma ml ms) (hmc : ml ≤ mc) (hr : Rd b W b q) (hg : w.grownBy W (some b)) (hx : W.heap[w.heap.size]? = some (.cells old T fr)) (hbw : b < w.heap.size) (hwX : w.heap.size < X)
    (hs : szT (.node o 0 ⟨#[]⟩ ts ms) ≤ S) (hq : q ≤ p + K) : DrawnR b p K S w (.returned (Fld.val ⟨o, 0, ⟨#[]⟩, a, ts.length, c, ma, ml, mc⟩)) (W.setRow w.heap.size cells) := by
  have hl : w.heap.size < W.heap.size := (Array.getElem?_eq_some_iff.1 hx).1
  have hB : Below w.heap.size W (W.setRow w.heap.size cells) := ⟨rfl, rfl, rfl, by simp, fun i hi => setRow_other _ _ _ _ (by omega)⟩
  have hG := grown_setRowT W w.heap.size cells
  obtain ⟨-, hkc, hrw⟩ := (hk.kept hG (fun k e => by injection e with e; omega)).rows
  have hm2 := hm.kept (w' := W.setRow w.heap.size cells) ⟨hG.size, fun y hy hl => hG.block y hl (by intro e; injection e with e; omega)⟩
  refine ⟨_, _, q, rfl, trF_iff.2 ⟨rfl, rfl, rfl, hm2.mono (fun x hx => by omega), ?_, hkc, hmc⟩, hs, hr.kept (hB.mono (Nat.le_of_lt hbw)) (hB.block b hbw), hq, ?_⟩
  · obtain ⟨h1, h2⟩ := hrw
    exact ⟨h1, h2.imp id fun ⟨b, off, k1, k2, k3, k4⟩ => ⟨b, off, k1, by omega, k3, RowF.mono (fun x hx => by omega) b off ts 0 k4⟩⟩
  · exact ⟨hB.os.trans hg.os, hB.tape.trans hg.tape, hB.output.trans hg.output, Nat.le_trans hg.size hB.size, fun i hi hne => (hB.block i hi).trans (hg.block i hi hne)⟩
theorem marksN_own2 {B : Nat} {w : World} {a : Option Addr} {n c : Nat} {ms : List (Int × Int)} (h : w.ownsRow B 93 2 (.slice a n c) ms.length (cellsMR ms)) : MarksN (fun x => B ≤ x) w a n ms := by
  rcases h.2 with ⟨e, e0⟩ | ⟨g, cap, cur, e, hg, hh, -⟩
  · injection e with e1 e2 e3
    subst e1 e2
    exact ⟨e0.symm, Or.inl rfl⟩
  · injection e with e1 e2 e3
    subst e1 e2 e3
    have hgl := (h.lt g rfl).2
    refine ⟨rfl, Or.inr ⟨g, 0, rfl, hg, hgl, fun i hi => ?_⟩⟩
    obtain ⟨c0, c1⟩ := cellsM_at ms i hi
    have e : ms.getD i (0, 0) = ms[i] := by simp [hi]
    rw [Nat.zero_add, e, h.cellAt (i * 2) (by omega), h.cellAt (i * 2 + 1) (by omega)]
    exact ⟨c0, c1⟩
set_option maxRecDepth 100000 in
set_option maxHeartbeats 16000000 in
theorem drawRuleN (m' : Nat) (ih : RuleDrawAt m') (hm' : m' < 4) : RuleDrawAt (m' + 1) := by
  obtain ⟨i0, hi, hz0, hz1, hz2⟩ := info_parts infoRuleK
  intro b p lb cap dd ss w hr hp hd hn hlb hls hns
  obtain ⟨m, hmm⟩ : ∃ m, m = m' + 1 := ⟨_, rfl⟩
  rw [← hmm] at hp hd ⊢
  have hdd : dd < 5 := by omega
  have hd0 : 0 ≤ dd := by omega
  have IH := Lib.hid ih
  have HD := Lib.hid hd
  have HMM := Lib.hid hmm
  clear ih hmm
  have HLB := Lib.hid hlb
  have HNS := Lib.hid hns
  have HBL : Hid (b < w.heap.size) := hr.le.2
  have hA : (w.alloc (.cells #[.int .i64 0, .int .i64 0, .string ⟨#[]⟩, .slice none 0 0, .slice none 0 0] 37)).heap[w.heap.size]? = some (.cells #[.int .i64 0, .int .i64 0, .string ⟨#[]⟩, .slice none 0 0, .slice none 0 0] 37 (0, 0)) := heap_alloc_new w _
  have X0 := Lib.hid hA
  have HR0 := Lib.hid (rd_alloc hr (.cells #[.int .i64 0, .int .i64 0, .string ⟨#[]⟩, .slice none 0 0, .slice none 0 0] 37))
  have G0 := Lib.hid (grown_alloc (w := w) (.cells #[.int .i64 0, .int .i64 0, .string ⟨#[]⟩, .slice none 0 0, .slice none 0 0] 37) (some b))
  have N0 : Hid (∀ i, i < 3 → (w.alloc (.cells #[.int .i64 0, .int .i64 0, .string ⟨#[]⟩, .slice none 0 0, .slice none 0 0] 37)).cell? ⟨lb, i, none⟩ = some (.string (ss i))) := fun i hi => ((Below.refl w.heap.size w).alloc (Nat.le_refl _) _).cell (p := ⟨lb, i, none⟩) hls |>.trans (hn i hi)
  obtain ⟨q0, hq0, HR0⟩ : ∃ q0, q0 ≤ p ∧ Hid (Rd b (w.alloc (.cells #[.int .i64 0, .int .i64 0, .string ⟨#[]⟩, .slice none 0 0, .slice none 0 0] 37)) b q0) := ⟨p, Nat.le_refl _, HR0⟩
  have hnb := NB_pos m
  clear hr hn hns hA hd hlb
  go_enter Tryz.func100, Tryz.ntmps100
  have z5 : decide (5 ≤ dd) = false := decide_eq_false (by omega)
  go_wp2_with fail
  refine (pick b b q0 3 _ HR0.out (by omega) (by omega) (by omega)).mono ?_
  rintro e w0 ⟨x0, a0, b0, rfl, hr0, hg0, -⟩
  have HR0q := Lib.hid hr0
  have G0q := Lib.hid (grown_trans G0.out hg0)
  have X0q := Lib.hid ((hg0.block _ (Array.getElem?_eq_some_iff.1 X0.out).1 (fun e => by injection e with e; have := HBL.out; omega)).trans X0.out)
  have N0q : Hid (∀ i, i < 3 → w0.cell? ⟨lb, i, none⟩ = some (.string (ss i))) := fun i hi => hg0.cell (N0.out i hi) (by have := HLB.out; first | exact this | exact fun e => this e.symm | (intro e; simp at e; exact this e))
  clear hr0 hg0 HR0 G0 X0 N0
  cases hx0 : (x0 == 0) with
  | true =>
    go_wp2_with fail
    refine (pick b b (q0 + 1) 2 _ HR0q.out (by omega) (by omega) (by omega)).mono ?_
    rintro e w1 ⟨x1, a1, b1, rfl, hr1, hg1, -⟩
    have HR1 := Lib.hid hr1
    have G1 := Lib.hid (grown_trans G0q.out hg1)
    have X1 := Lib.hid ((hg1.block _ (Array.getElem?_eq_some_iff.1 X0q.out).1 (fun e => by injection e with e; have := HBL.out; omega)).trans X0q.out)
    have N1 : Hid (∀ i, i < 3 → w1.cell? ⟨lb, i, none⟩ = some (.string (ss i))) := fun i hi => hg1.cell (N0q.out i hi) (by have := HLB.out; first | exact this | exact fun e => this e.symm | (intro e; simp at e; exact this e))
    clear hr1 hg1 HR0q G0q X0q N0q
    cases hx : (x1 == 0) with
    | true =>
      go_wp2_with fail
      refine (pickOf b b (q0 + 1 + 1) 3 lb cap ss _ HR1.out (by omega) (by omega) (by omega) N1.out HLB.out).mono ?_
      rintro e w2 ⟨i, hi, rfl, hr2, hg2, -⟩
      have HR2 := Lib.hid hr2
      have G2 := Lib.hid (grown_trans G1.out hg2)
      have X2 := Lib.hid ((hg2.block _ (Array.getElem?_eq_some_iff.1 X1.out).1 (fun e => by injection e with e; have := HBL.out; omega)).trans X1.out)
      have HS := Lib.hid (HNS.out i hi)
      clear hr2 hg2 HR1 G1 X1 N1
      generalize ss i = s at *
      have hres := X2.out
      go_wp2_with (first
        | (refine wpList_store_row rfl 37 _ _ rfl w.heap.size #[.int .i64 2, .int .i64 0, .string s, .slice none 0 0, .slice none 0 0] rfl rfl 37 #[.int .i64 0, .int .i64 0, .string ⟨#[]⟩, .slice none 0 0, .slice none 0 0] hres ruleSize rfl (by simp [Value.oneCell']) ?_)
        | fail)
      have hfin : (w2.setRow w.heap.size #[.int .i64 2, .int .i64 0, .string s, .slice none 0 0, .slice none 0 0]).heap[w.heap.size]? = some (.cells #[.int .i64 2, .int .i64 0, .string s, .slice none 0 0, .slice none 0 0] 37 (0, 0)) := setRow_heap w2 w.heap.size _ _ _ _ hres
      have hpost : DrawnR b p (60 * NB m) (12 * NB m) w (.returned (Fld.val ⟨2, 0, s, none, 0, 0, none, 0, 0⟩)) (w2.setRow w.heap.size #[.int .i64 2, .int .i64 0, .string s, .slice none 0 0, .slice none 0 0]) := leaf_done HR2.out G2.out hres HBL.out (by simp only [szT, List.length_nil, szL]; have := HS.out; omega) (by have := NB_pos m; omega) (by have := NB_pos m; omega)
      generalize w2.setRow w.heap.size #[.int .i64 2, .int .i64 0, .string s, .slice none 0 0, .slice none 0 0] = WF at *
      have v0 : WF.cell? ⟨w.heap.size, 0, none⟩ = some (.int .i64 2) := by rw [Lib.cell_of_heap hfin]; rfl
      have v1 : WF.cell? ⟨w.heap.size, 1, none⟩ = some (.int .i64 0) := by rw [Lib.cell_of_heap hfin]; rfl
      have v2 : WF.cell? ⟨w.heap.size, 2, none⟩ = some (.string s) := by rw [Lib.cell_of_heap hfin]; rfl
      have v3 : WF.cell? ⟨w.heap.size, 3, none⟩ = some (.slice none 0 0) := by rw [Lib.cell_of_heap hfin]; rfl
      have v4 : WF.cell? ⟨w.heap.size, 4, none⟩ = some (.slice none 0 0) := by rw [Lib.cell_of_heap hfin]; rfl
      have HP := Lib.hid hpost
      clear hfin hpost hres
      refine bodyPost_ret (v := Fld.val ⟨2, 0, s, none, 0, 0, none, 0, 0⟩) ?_ rfl HP.out
      unfold Fld.val
      rw [results_cell1 rfl]
      go_simp
      all_goals rfl
    | false =>
      go_wp2_with fail
      refine (pick b b (q0 + 1 + 1) 40 _ HR1.out (by omega) (by omega) (by omega)).mono ?_
      rintro e w2 ⟨x2, a2, b2, rfl, hr2, hg2, -⟩
      go_wp2_with fail
      refine (pick b b (q0 + 1 + 1 + 1) 9 _ hr2 (by omega) (by omega) (by omega)).mono ?_
      rintro e w3 ⟨x3, a3, b3, rfl, hr3, hg3, -⟩
      have e3 : IntKind.i64.wrap (x3 - 4) = x3 - 4 := IntWalk.i64_in _ (by omega)
      go_wp2_with fail
      refine (pick b b (q0 + 1 + 1 + 1 + 1) 3 _ hr3 (by omega) (by omega) (by omega)).mono ?_
      rintro e w4 ⟨x4, a4, b4, rfl, hr4, hg4, -⟩
      have G4 := Lib.hid (grown_trans G1.out (grown_trans hg2 (grown_trans hg3 hg4)))
      have X4 := Lib.hid (((grown_trans hg2 (grown_trans hg3 hg4)).block _ (Array.getElem?_eq_some_iff.1 X1.out).1 (fun e => by injection e with e; have := HBL.out; omega)).trans X1.out)
      have HR4 := Lib.hid hr4
      have hbs : b < w4.heap.size := hr4.le.2
      clear hr2 hr3 hr4 hg2 hg3 hg4 HR1 G1 X1 N1
      go_wp2_with fail
      refine (pick b b (q0 + 1 + 1 + 1 + 1 + 1) 5 _ (rd_alloc HR4.out _) (by omega) (by omega) (by omega)).mono ?_
      rintro e w5 ⟨x5, a5, b5, rfl, hr5, hg5, -⟩
      obtain ⟨i, rfl⟩ := Int.eq_ofNat_of_zero_le a5
      have q1 : (i : Int) < 5 := b5
      have q2 : 0 ≤ (i : Int) := a5
      obtain ⟨y, y1, y2, c1⟩ := one_of w4.heap.size rfl [x2, x3 - 4, 100, 1000000000, x4] rfl (-4) 1000000000 (by intro v hv; simp at hv; omega) i (by simp; omega) hg5 (by omega)
      have GA : w4.grownBy w5 (some b) := grown_trans (grown_alloc _ (some b)) hg5
      have G5 := Lib.hid (grown_trans G4.out GA)
      have X5 := Lib.hid ((GA.block _ (Array.getElem?_eq_some_iff.1 X4.out).1 (fun e => by injection e with e; have := HBL.out; omega)).trans X4.out)
      have HR5 := Lib.hid hr5
      clear hr5 hg5 HR4 G4 X4 GA
      have hres := X5.out
      go_wp2_with (first
        | (refine wpList_store_row rfl 37 _ _ rfl w.heap.size #[.int .i64 1, .int .i64 y, .string ⟨#[]⟩, .slice none 0 0, .slice none 0 0] rfl rfl 37 #[.int .i64 0, .int .i64 0, .string ⟨#[]⟩, .slice none 0 0, .slice none 0 0] hres ruleSize rfl (by simp [Value.oneCell']) ?_)
        | fail)
      have hfin : (w5.setRow w.heap.size #[.int .i64 1, .int .i64 y, .string ⟨#[]⟩, .slice none 0 0, .slice none 0 0]).heap[w.heap.size]? = some (.cells #[.int .i64 1, .int .i64 y, .string ⟨#[]⟩, .slice none 0 0, .slice none 0 0] 37 (0, 0)) := setRow_heap w5 w.heap.size _ _ _ _ hres
      have hpost : DrawnR b p (60 * NB m) (12 * NB m) w (.returned (Fld.val ⟨1, y, ⟨#[]⟩, none, 0, 0, none, 0, 0⟩)) (w5.setRow w.heap.size #[.int .i64 1, .int .i64 y, .string ⟨#[]⟩, .slice none 0 0, .slice none 0 0]) := leaf_done HR5.out G5.out hres HBL.out (by simp only [szT, List.length_nil, szL]; decide) (by have := NB_pos m; omega) (by have := NB_pos m; omega)
      generalize w5.setRow w.heap.size #[.int .i64 1, .int .i64 y, .string ⟨#[]⟩, .slice none 0 0, .slice none 0 0] = WF at *
      have v0 : WF.cell? ⟨w.heap.size, 0, none⟩ = some (.int .i64 1) := by rw [Lib.cell_of_heap hfin]; rfl
      have v1 : WF.cell? ⟨w.heap.size, 1, none⟩ = some (.int .i64 y) := by rw [Lib.cell_of_heap hfin]; rfl
      have v2 : WF.cell? ⟨w.heap.size, 2, none⟩ = some (.string ⟨#[]⟩) := by rw [Lib.cell_of_heap hfin]; rfl
      have v3 : WF.cell? ⟨w.heap.size, 3, none⟩ = some (.slice none 0 0) := by rw [Lib.cell_of_heap hfin]; rfl
      have v4 : WF.cell? ⟨w.heap.size, 4, none⟩ = some (.slice none 0 0) := by rw [Lib.cell_of_heap hfin]; rfl
      have HP := Lib.hid hpost
      clear hfin hpost hres
      refine bodyPost_ret (v := Fld.val ⟨1, y, ⟨#[]⟩, none, 0, 0, none, 0, 0⟩) ?_ rfl HP.out
      unfold Fld.val
      rw [results_cell1 rfl]
      go_simp
      all_goals rfl
  | false =>
    go_wp2_with fail
    refine (pick b b (q0 + 1) 8 _ HR0q.out (by omega) (by omega) (by omega)).mono ?_
    rintro e w1 ⟨x1, a1, b1, rfl, hr1, hg1, -⟩
    have HR1 := Lib.hid hr1
    have G1 := Lib.hid (grown_trans G0q.out hg1)
    have X1 := Lib.hid ((hg1.block _ (Array.getElem?_eq_some_iff.1 X0q.out).1 (fun e => by injection e with e; have := HBL.out; omega)).trans X0q.out)
    have N1 : Hid (∀ i, i < 3 → w1.cell? ⟨lb, i, none⟩ = some (.string (ss i))) := fun i hi => hg1.cell (N0q.out i hi) (by have := HLB.out; first | exact this | exact fun e => this e.symm | (intro e; simp at e; exact this e))
    clear hr1 hg1 HR0q G0q X0q N0q
    obtain ⟨o, ho⟩ : ∃ o, o = 3 + x1 := ⟨_, rfl⟩
    have o3 : 3 ≤ o := by omega
    have o10 : o ≤ 10 := by omega
    have eo : IntKind.i64.wrap (3 + x1) = o := by rw [ho]; exact IntWalk.i64_in _ (by omega)
    have HBX := heap_alloc_new w1 (.cells #[.int .i64 0, .int .i64 0, .string ⟨#[]⟩, .slice none 0 0, .slice none 0 0] 37)
    clear ho
    have hrowX := setRow_heap (w1.alloc (.cells #[.int .i64 0, .int .i64 0, .string ⟨#[]⟩, .slice none 0 0, .slice none 0 0] 37)) w1.heap.size _ (#[.int .i64 o, .int .i64 0, .string ⟨#[]⟩, .slice none 0 0, .slice none 0 0]) _ _ HBX
    have u0 : ((w1.alloc (.cells #[.int .i64 0, .int .i64 0, .string ⟨#[]⟩, .slice none 0 0, .slice none 0 0] 37)).setRow w1.heap.size #[.int .i64 o, .int .i64 0, .string ⟨#[]⟩, .slice none 0 0, .slice none 0 0]).cell? ⟨w1.heap.size, 0, none⟩ = some (.int .i64 o) := by rw [Lib.cell_of_heap hrowX]; rfl
    go_wp2_with (first
      | (refine wpList_store_row rfl 37 _ _ rfl w1.heap.size #[.int .i64 o, .int .i64 0, .string ⟨#[]⟩, .slice none 0 0, .slice none 0 0] rfl rfl 37 #[.int .i64 0, .int .i64 0, .string ⟨#[]⟩, .slice none 0 0, .slice none 0 0] HBX ruleSize rfl (by simp [Value.oneCell']) ?_)
      | fail)

    have hB1 : Below w1.heap.size w1 ((w1.alloc (.cells #[.int .i64 0, .int .i64 0, .string ⟨#[]⟩, .slice none 0 0, .slice none 0 0] 37)).setRow w1.heap.size #[.int .i64 o, .int .i64 0, .string ⟨#[]⟩, .slice none 0 0, .slice none 0 0]) := ((Below.refl _ _).alloc (Nat.le_refl _) _).trans ⟨rfl, rfl, rfl, by simp, fun i hi => setRow_other _ _ _ _ (by omega)⟩
    generalize (w1.alloc (.cells #[.int .i64 0, .int .i64 0, .string ⟨#[]⟩, .slice none 0 0, .slice none 0 0] 37)).setRow w1.heap.size #[.int .i64 o, .int .i64 0, .string ⟨#[]⟩, .slice none 0 0, .slice none 0 0] = W1 at *
    have hXl : w1.heap.size < W1.heap.size := (Array.getElem?_eq_some_iff.1 hrowX).1
    have hbx1 : b < w1.heap.size := HR1.out.le.2
    have hww1 : w.heap.size < w1.heap.size := (Array.getElem?_eq_some_iff.1 X1.out).1
    have HR2 := Lib.hid (HR1.out.kept (hB1.mono (Nat.le_of_lt hbx1)) (hB1.block b hbx1))
    have G2 := Lib.hid (grown_trans G1.out (grown_any hB1 (row := some b)))
    have X2 := Lib.hid ((hB1.block _ hww1).trans X1.out)
    have N2 : Hid (∀ i, i < 3 → W1.cell? ⟨lb, i, none⟩ = some (.string (ss i))) := fun i hi => (hB1.cell (p := ⟨lb, i, none⟩) (by have := World.block_lt_of_cell? w1 ⟨lb, i, none⟩ (N1.out i hi); exact this)).trans (N1.out i hi)
    have HXR := Lib.hid hrowX
    have HWX := Lib.hid hww1
    clear HR1 G1 X1 N1 HBX hB1
    generalize hXe : w1.heap.size = X at *
    clear hXe w1
    obtain ⟨K, hK, hK4⟩ : ∃ K : Nat, kidsN o = (K : Int) ∧ K ≤ 4 := by
      have : o = 3 ∨ o = 4 ∨ o = 5 ∨ o = 6 ∨ o = 7 ∨ o = 8 ∨ o = 9 ∨ o = 10 := by omega
      rcases this with rfl | rfl | rfl | rfl | rfl | rfl | rfl | rfl
      all_goals first | exact ⟨2, rfl, by omega⟩ | exact ⟨3, rfl, by omega⟩ | exact ⟨4, rfl, by omega⟩ | exact ⟨1, rfl, by omega⟩
    clear hrowX
    refine (specKidsQ o _ _ hK).mono ?_
    rintro e w2 ⟨rfl, rfl⟩
    clear hK u0
    obtain ⟨nb, hnbe⟩ : ∃ nb, nb = NB m' := ⟨_, rfl⟩
    have hnb' : 1 ≤ nb := by rw [hnbe]; exact NB_pos m'
    have hNB : Hid (NB m = 1 + 4 * nb) := by show _ = _; rw [HMM.out, NB, hnbe]
    have HNBE := Lib.hid hnbe
    clear hnbe
    go_wp2_with fail
    go_loopw [8] (fun vn wr => ∃ (k : Nat) (a : Option Addr) (c : Nat) (ts : List Tr) (q : Nat), vn = .int .i64 k ∧ k + ts.length = K ∧ Hid (wr.heap[X]? = some (.cells #[.int .i64 o, .int .i64 0, .string ⟨#[]⟩, .slice a ts.length c, .slice none 0 0] 37 (0, 0))) ∧ Hid (KidsO (X + 1) wr (.slice a ts.length c) ts) ∧ Hid (szL ts ≤ ts.length * (12 * nb)) ∧ Hid (Rd b wr b q) ∧ q ≤ p + 3 + ts.length * (60 * nb) ∧ Hid (∀ i, i < 3 → wr.cell? ⟨lb, i, none⟩ = some (.string (ss i))) ∧ Hid (w.grownBy wr (some b)) ∧ Hid (wr.heap[w.heap.size]? = some (.cells #[.int .i64 0, .int .i64 0, .string ⟨#[]⟩, .slice none 0 0, .slice none 0 0] 37 (0, 0)))) (fun vn _ => (intOf vn).toNat)
    case atStart => exact ⟨K, none, 0, [], q0 + 1 + 1, rfl, by simp, HXR, kidsO_nil _ _, Lib.hid (by simp [szL]), HR2, by simp; omega, N2, G2, X2⟩
    case round =>
      obtain ⟨k, a, c, ts, q, rfl, hkl, hX, hKO, hsz, hR, hq, hN, hG, h0⟩ := hrel
      clear HR2 G2 X2 N2 HXR
      have hXw : X < wr.heap.size := (Array.getElem?_eq_some_iff.1 hX.out).1
      have hbw : b < wr.heap.size := hR.out.le.2
      rcases Nat.lt_or_ge 0 k with hk | hk
      · have kz : decide (0 < (k : Int)) = true := decide_eq_true (by omega)
        have kz' : decide (0 < k) = true := decide_eq_true hk
        have ktw : IntKind.i64.wrap ((k : Int) - 1) = ((k - 1 : Nat) : Int) := by rw [IntWalk.i64_in _ (by omega)]; omega
        have kdd : IntKind.i64.wrap (dd + 1) = dd + 1 := IntWalk.i64_in _ (by omega)
        have cX : wr.cell? ⟨X, 3, none⟩ = some (.slice a ts.length c) := by rw [Lib.cell_of_heap hX.out]; rfl
        have hts3 : ts.length ≤ 3 := by omega
        have hmul : ts.length * (60 * nb) ≤ 3 * (60 * nb) := Nat.mul_le_mul_right _ hts3
        have hcall : ∀ W, Below wr.heap.size wr W → Calls Tryz.prog 100 #[.pointer (some ⟨b, 0, none⟩), .int .i64 (dd + 1), .slice (some ⟨lb, 0, none⟩) 3 cap] W (DrawnR b q (60 * nb) (12 * nb) W) := fun W hW => by
          have e1 := IH.out b q lb cap (dd + 1) ss W (hR.out.kept (hW.mono (Nat.le_of_lt hbw)) (hW.block b hbw)) (by have h1 := hNB.out; rw [← HNBE.out]; omega) (by have := HD.out; have := HMM.out; omega) (fun i hi => (hW.cell (p := ⟨lb, i, none⟩) (by have := World.block_lt_of_cell? wr ⟨lb, i, none⟩ (hN.out i hi); exact this)).trans (hN.out i hi)) HLB.out (by have := World.block_lt_of_cell? wr ⟨lb, 0, none⟩ (hN.out 0 (by omega)); have := hW.size; omega) HNS.out
          rw [← HNBE.out] at e1
          exact e1
        obtain ⟨fs, hfl, hown, htr⟩ := hKO.out
        have HO := Lib.hid hown
        have HT := Lib.hid htr
        have hglt : ∀ g, (Value.slice a ts.length c).ownBlock = some g → X + 1 ≤ g ∧ g < wr.heap.size := fun g e => hown.lt g e
        have HGL := Lib.hid hglt
        have HFL := Lib.hid hfl
        have hcall2 : Calls Tryz.prog 100 #[.pointer (some ⟨b, 0, none⟩), .int .i64 (dd + 1), .slice (some ⟨lb, 0, none⟩) 3 cap] wr.drew (fun e w3 => ∃ (t3 : Tr) (f3 : Fld), e = .returned (.agg #[.int .i64 f3.op, .int .i64 f3.num, .string f3.name, .slice f3.ka f3.kl f3.kc, .slice f3.ma f3.ml f3.mc]) ∧ Hid (KidR b X q (60 * nb) (12 * nb) wr w3 t3 f3) ∧ w3.cell? ⟨X, 3, none⟩ = some (.slice a ts.length c) ∧ (w3.alloc (.cells #[.int .i64 f3.op, .int .i64 f3.num, .string f3.name, .slice f3.ka f3.kl f3.kc, .slice f3.ma f3.ml f3.mc] 37)).cell? ⟨X, 3, none⟩ = some (.slice a ts.length c) ∧ wr.heap.size ≤ w3.heap.size ∧ Hid (w3.heap[X]? = some (.cells #[.int .i64 o, .int .i64 0, .string ⟨#[]⟩, .slice a ts.length c, .slice none 0 0] 37 (0, 0))) ∧ Hid (w3.ownsRow (X + 1) 37 5 (.slice a ts.length c) ts.length (rowsR fs))) := by
          refine (hcall _ (belowN (Below.refl _ _) 1)).mono ?_
          rintro e w3 ⟨t3, f3, p3, rfl, ht3, hs3, hr3, hp3, hg3⟩
          have hgw : wr.grownBy w3 (some b) := grown_trans (grownN wr 1 _) hg3
          have hX3 := (hgw.block X hXw (fun e => by injection e with e; omega)).trans hX.out
          have hXA := ((Below.refl w3.heap.size w3).alloc (Nat.le_refl _) (.cells #[.int .i64 f3.op, .int .i64 f3.num, .string f3.name, .slice f3.ka f3.kl f3.kc, .slice f3.ma f3.ml f3.mc] 37)).block X (Nat.lt_of_lt_of_le hXw hgw.size) |>.trans hX3
          exact ⟨t3, f3, rfl, ⟨⟨p3, hr3, hp3⟩, ht3, hs3, hgw⟩, by rw [Lib.cell_of_heap hX3]; rfl, by rw [Lib.cell_of_heap hXA]; rfl, hgw.size, hX3, own_rowKept HO.out hgw (fun g e e2 => by injection e with e; have := (HGL.out _ e2).1; omega)⟩
        have HC := Lib.hid hcall2
        clear hcall hcall2 hown htr hglt hfl hKO
        go_wp2_with fail
        go_region_law (first
          | (refine step_append_lies _ ?g1 ?gs ?gx 34 ?g2 (X + 1) 37 i0 (.agg #[.int .i64 0, .int .i64 0, .string ⟨#[]⟩, .slice none 0 0, .slice none 0 0]) 5 80 ?g3 ?g4 ?g5 ?g6 ?g7 ?g8 ?g9 (.slice a ts.length c) ts.length (rowsR fs) ?g10 ?h1 ⟨w3.heap.size, 0, none⟩ 1 1 (rowR f3) ?g11 ?g12 ?h2 ?h3 ?c1 ?c2 ?c3 ?c4 (w3.heap.size + 1) ?c5 ?_; (case g1 => rfl); (case g2 => rfl); (case g10 => rfl); (case g11 => rfl); (case h1 => exact HO3.out.alloc _); (case g3 => exact Tryz.underlying34); (case g4 => exact hi); (case g5 => exact hz0); (case g6 => exact hz1); (case g7 => exact hz2); (case g8 => rfl); (case g9 => decide); (case g12 => rfl); (case h2 => exact one_kid f3 (heap_alloc_new w3 _)); (case h3 => exact rowR_one f3); (case c1 => decide); (case c2 => unfold maxLen; omega); (case c3 => omega); (case c4 => simp only [World.size_alloc]; omega); (case c5 => simp only [World.size_alloc]); intro g5 cap5 w5 hown5 hgrow5 hat5 hlt5; have hX5 := kid_far HX3.out hgrow5 HGL.out hXw3; have cX5 : w5.cell? ⟨X, 3, none⟩ = some (.slice a ts.length c) := cell3 hX5; have fX5 : w5.frozen? ⟨X, 3, none⟩ = false := Lib.frozen_of_heap hX5 3)
          | (go_simp; go_at_call 100; go_must (refine HC.out.mono ?_); rintro e w3 ⟨t3, f3, rfl, HK3, cX3, cXA, hsz3, HX3, HO3⟩; have hXw3 : X < w3.heap.size := Nat.lt_of_lt_of_le hXw hsz3))
        all_goals
          have hnx := kid_next HK3.out HBL.out HWX.out hXw HX3.out HFL.out HO3.out HT.out HGL.out hown5 hgrow5 hat5 hG.out h0.out hN.out HLB.out hls
          generalize (w5.setCell ⟨X, 3, none⟩ (.slice (some ⟨g5, 0, none⟩) (ts.length + 1) cap5)) = W6 at *
          obtain ⟨nx1, nx2, ⟨q6, nx3, nx3'⟩, nx4, nx5, nx6⟩ := hnx
          have NX1 := Lib.hid nx1
          have NX2 := Lib.hid nx2
          have NX3 := Lib.hid nx3
          have NX4 := Lib.hid nx4
          have NX5 := Lib.hid nx5
          have NX6 := Lib.hid nx6
          have NSZ : Hid (szL (ts ++ [t3]) ≤ (ts ++ [t3]).length * (12 * nb)) := by
            refine Lib.hid ?_
            have h1 := HK3.out.2.2.1
            have h2 := hsz.out
            rw [szL_snoc, List.length_append, List.length_cons, List.length_nil, Nat.add_mul]
            omega
          clear nx1 nx2 nx3 nx4 nx5 nx6 hown5 hgrow5 hat5 hX5 cX5 fX5
          go_wp2
          go_roundw
          case rel => exact ⟨k - 1, some ⟨g5, 0, none⟩, cap5, ts ++ [t3], q6, by rw [← ktw], by simp; omega, NX1, NX2, NSZ, NX3, by rw [List.length_append, List.length_cons, List.length_nil, Nat.add_mul]; omega, NX4, NX5, NX6⟩
          case measure => simp [intOf]; omega
      · obtain rfl : k = 0 := by omega
        have kz : decide (0 < ((0 : Nat) : Int)) = false := rfl
        have v0 : wr.cell? ⟨X, 0, none⟩ = some (.int .i64 o) := by rw [Lib.cell_of_heap hX.out]; rfl
        have htK : ts.length ≤ 4 := by omega
        have hszb : szL ts ≤ 4 * (12 * nb) := Nat.le_trans hsz.out (Nat.mul_le_mul_right _ htK)
        have hqb : q ≤ p + 3 + 4 * (60 * nb) := Nat.le_trans hq (Nat.add_le_add_left (Nat.mul_le_mul_right _ htK) _)
        obtain ⟨-, hkc, hrws⟩ := hKO.out.rows
        have HRW := Lib.hid hrws
        have HSZ := Lib.hid hszb
        clear hrws hszb hsz hq
        cases ho : (o == 10) with
        | false =>
          have hXe := hX.out
          have y0 : (wr).cell? ⟨X, 0, none⟩ = some (.int .i64 o) := by rw [Lib.cell_of_heap hXe]; rfl
          have y1 : (wr).cell? ⟨X, 1, none⟩ = some (.int .i64 0) := by rw [Lib.cell_of_heap hXe]; rfl
          have y2 : (wr).cell? ⟨X, 2, none⟩ = some (.string ⟨#[]⟩) := by rw [Lib.cell_of_heap hXe]; rfl
          have y3 : (wr).cell? ⟨X, 3, none⟩ = some (.slice a ts.length c) := by rw [Lib.cell_of_heap hXe]; rfl
          have y4 : (wr).cell? ⟨X, 4, none⟩ = some (.slice none 0 0) := by rw [Lib.cell_of_heap hXe]; rfl
          clear hXe
          have hres := h0.out
          have hfin : ((wr).setRow w.heap.size #[.int .i64 o, .int .i64 0, .string ⟨#[]⟩, .slice a ts.length c, .slice none 0 0]).heap[w.heap.size]? = some (.cells #[.int .i64 o, .int .i64 0, .string ⟨#[]⟩, .slice a ts.length c, .slice none 0 0] 37 (0, 0)) := setRow_heap _ w.heap.size _ _ _ _ hres
          have hpost : DrawnR b p (60 * NB m) (12 * NB m) w (.returned (Fld.val ⟨o, 0, ⟨#[]⟩, a, ts.length, c, none, 0, 0⟩)) ((wr).setRow w.heap.size #[.int .i64 o, .int .i64 0, .string ⟨#[]⟩, .slice a ts.length c, .slice none 0 0]) := fin_rule (ms := []) hKO.out ⟨rfl, Or.inl rfl⟩ (Nat.le_refl 0) hR.out hG.out hres HBL.out HWX.out (by
              simp only [szT]
              have h1 := HSZ.out
              have h2 := hNB.out
              have h3 : (⟨#[]⟩ : ByteArray).size = 0 := rfl
              rw [h2]
              try simp only [List.length_nil]
              omega) (by have h2 := hNB.out; rw [h2]; omega)
          go_wp2_with (first
            | (refine wpList_store_row rfl 37 _ _ rfl w.heap.size #[.int .i64 o, .int .i64 0, .string ⟨#[]⟩, .slice a ts.length c, .slice none 0 0] rfl rfl 37 #[.int .i64 0, .int .i64 0, .string ⟨#[]⟩, .slice none 0 0, .slice none 0 0] hres ruleSize rfl (by simp [Value.oneCell']) ?_)
            | fail)
          generalize hWF : (wr).setRow w.heap.size #[.int .i64 o, .int .i64 0, .string ⟨#[]⟩, .slice a ts.length c, .slice none 0 0] = WF at *
          have v0 : WF.cell? ⟨w.heap.size, 0, none⟩ = some (.int .i64 o) := by rw [Lib.cell_of_heap hfin]; rfl
          have v1 : WF.cell? ⟨w.heap.size, 1, none⟩ = some (.int .i64 0) := by rw [Lib.cell_of_heap hfin]; rfl
          have v2 : WF.cell? ⟨w.heap.size, 2, none⟩ = some (.string ⟨#[]⟩) := by rw [Lib.cell_of_heap hfin]; rfl
          have v3 : WF.cell? ⟨w.heap.size, 3, none⟩ = some (.slice a ts.length c) := by rw [Lib.cell_of_heap hfin]; rfl
          have v4 : WF.cell? ⟨w.heap.size, 4, none⟩ = some (.slice none 0 0) := by rw [Lib.cell_of_heap hfin]; rfl
          have HP := Lib.hid hpost
          clear hfin hpost hres y0 y1 y2 y3 y4
          refine bodyPost_ret (v := Fld.val ⟨o, 0, ⟨#[]⟩, a, ts.length, c, none, 0, 0⟩) ?_ rfl HP.out
          unfold Fld.val
          rw [results_cell1 rfl]
          go_simp
          all_goals rfl
        | true =>
          have HC := Lib.hid (drawMarks b q wr hR.out (by have h2 := hNB.out; omega))
          go_wp2_with fail
          refine HC.out.mono ?_
          rintro e w2 ⟨v, nm, p2, hn1, hn4, rfl, ⟨ms, hml, hown, -, hnil⟩, hr2, hp2, hb2, hg2⟩
          obtain ⟨gm, cm, rfl⟩ := own_form hown hnil
          have hgm := hown.lt gm rfl
          have hX2 := (hg2.block X hXw (fun e => by injection e with e; have := HBL.out; have := HWX.out; omega)).trans hX.out
          have cX4 : w2.cell? ⟨X, 4, none⟩ = some (.slice none 0 0) := by rw [Lib.cell_of_heap hX2]; rfl
          have fX4 : w2.frozen? ⟨X, 4, none⟩ = false := Lib.frozen_of_heap hX2 4
          have hX6 : (w2.setCell ⟨X, 4, none⟩ (.slice (some ⟨gm, 0, none⟩) nm cm)).heap[X]? = some (.cells #[.int .i64 o, .int .i64 0, .string ⟨#[]⟩, .slice a ts.length c, .slice (some ⟨gm, 0, none⟩) nm cm] 37 (0, 0)) := by simp [World.setCell, Array.getElem?_modify, hX2]
          have gS := grown_set w2 ⟨X, 4, none⟩ (.slice (some ⟨gm, 0, none⟩) nm cm)
          have h06 := (gS.block w.heap.size (by have := hg2.size; have := HWX.out; omega) (by intro e; injection e with e; have : w.heap.size = X := e; have := HWX.out; omega)).trans ((hg2.block w.heap.size (by have := HWX.out; omega) (fun e => by injection e with e; have := HBL.out; omega)).trans h0.out)
          have hKO6 := (hKO.out.kept hg2 (fun k e => by injection e with e; have := HBL.out; have := HWX.out; omega)).kept gS (fun k e => by injection e with e; have : X = k := e; omega)
          have hMK6 : MarksN (fun x => X + 1 ≤ x) (w2.setCell ⟨X, 4, none⟩ (.slice (some ⟨gm, 0, none⟩) nm cm)) (some ⟨gm, 0, none⟩) nm ms := by
            subst hml
            exact ((marksN_own2 hown).mono (fun x hx => by have : wr.heap.size ≤ x := hx; omega)).kept ⟨gS.size, fun y hy hl => gS.block y hl (by intro e; injection e with e; have : y = X := e; omega)⟩
          have hgr6 : w.grownBy (w2.setCell ⟨X, 4, none⟩ (.slice (some ⟨gm, 0, none⟩) nm cm)) (some b) := grown_ownM (grown_trans hG.out hg2) gS (fun k e => by injection e with e; have : X = k := e; have := HWX.out; left; omega)
          have hrd6 : Rd b (w2.setCell ⟨X, 4, none⟩ (.slice (some ⟨gm, 0, none⟩) nm cm)) b p2 := hr2.kept ((Below.refl _ _).setCell (p := ⟨X, 4, none⟩) (by show b ≤ X; have := HBL.out; have := HWX.out; omega) _) (gS.block b hr2.le.2 (by intro e; injection e with e; have : b = X := e; have := HBL.out; have := HWX.out; omega))
          have HX6 := Lib.hid hX6
          have H06 := Lib.hid h06
          have HKO6 := Lib.hid hKO6
          have HMK6 := Lib.hid hMK6
          have HGR6 := Lib.hid hgr6
          have HRD6 := Lib.hid hrd6
          have HOC := Lib.hid (own_cap hown)
          clear hX2 hX6 gS h06 hKO6 hMK6 hgr6 hrd6 hown hr2 hb2 hg2 HC v0

          have hXe := HX6.out
          have y0 : (w2.setCell ⟨X, 4, none⟩ (.slice (some ⟨gm, 0, none⟩) nm cm)).cell? ⟨X, 0, none⟩ = some (.int .i64 o) := by rw [Lib.cell_of_heap hXe]; rfl
          have y1 : (w2.setCell ⟨X, 4, none⟩ (.slice (some ⟨gm, 0, none⟩) nm cm)).cell? ⟨X, 1, none⟩ = some (.int .i64 0) := by rw [Lib.cell_of_heap hXe]; rfl
          have y2 : (w2.setCell ⟨X, 4, none⟩ (.slice (some ⟨gm, 0, none⟩) nm cm)).cell? ⟨X, 2, none⟩ = some (.string ⟨#[]⟩) := by rw [Lib.cell_of_heap hXe]; rfl
          have y3 : (w2.setCell ⟨X, 4, none⟩ (.slice (some ⟨gm, 0, none⟩) nm cm)).cell? ⟨X, 3, none⟩ = some (.slice a ts.length c) := by rw [Lib.cell_of_heap hXe]; rfl
          have y4 : (w2.setCell ⟨X, 4, none⟩ (.slice (some ⟨gm, 0, none⟩) nm cm)).cell? ⟨X, 4, none⟩ = some (.slice (some ⟨gm, 0, none⟩) nm cm) := by rw [Lib.cell_of_heap hXe]; rfl
          clear hXe
          have hres := H06.out
          have hfin : ((w2.setCell ⟨X, 4, none⟩ (.slice (some ⟨gm, 0, none⟩) nm cm)).setRow w.heap.size #[.int .i64 o, .int .i64 0, .string ⟨#[]⟩, .slice a ts.length c, .slice (some ⟨gm, 0, none⟩) nm cm]).heap[w.heap.size]? = some (.cells #[.int .i64 o, .int .i64 0, .string ⟨#[]⟩, .slice a ts.length c, .slice (some ⟨gm, 0, none⟩) nm cm] 37 (0, 0)) := setRow_heap _ w.heap.size _ _ _ _ hres
          have hpost : DrawnR b p (60 * NB m) (12 * NB m) w (.returned (Fld.val ⟨o, 0, ⟨#[]⟩, a, ts.length, c, some ⟨gm, 0, none⟩, nm, cm⟩)) ((w2.setCell ⟨X, 4, none⟩ (.slice (some ⟨gm, 0, none⟩) nm cm)).setRow w.heap.size #[.int .i64 o, .int .i64 0, .string ⟨#[]⟩, .slice a ts.length c, .slice (some ⟨gm, 0, none⟩) nm cm]) := fin_rule (ms := ms) HKO6.out HMK6.out HOC.out HRD6.out HGR6.out hres HBL.out HWX.out (by
              simp only [szT]
              have h1 := HSZ.out
              have h2 := hNB.out
              have h3 : (⟨#[]⟩ : ByteArray).size = 0 := rfl
              rw [h2]
              try simp only [List.length_nil]
              omega) (by have h2 := hNB.out; rw [h2]; omega)
          go_wp2_with (first
            | (refine wpList_store_row rfl 37 _ _ rfl w.heap.size #[.int .i64 o, .int .i64 0, .string ⟨#[]⟩, .slice a ts.length c, .slice (some ⟨gm, 0, none⟩) nm cm] rfl rfl 37 #[.int .i64 0, .int .i64 0, .string ⟨#[]⟩, .slice none 0 0, .slice none 0 0] hres ruleSize rfl (by simp [Value.oneCell']) ?_)
            | fail)
          generalize hWF : (w2.setCell ⟨X, 4, none⟩ (.slice (some ⟨gm, 0, none⟩) nm cm)).setRow w.heap.size #[.int .i64 o, .int .i64 0, .string ⟨#[]⟩, .slice a ts.length c, .slice (some ⟨gm, 0, none⟩) nm cm] = WF at *
          have v0 : WF.cell? ⟨w.heap.size, 0, none⟩ = some (.int .i64 o) := by rw [Lib.cell_of_heap hfin]; rfl
          have v1 : WF.cell? ⟨w.heap.size, 1, none⟩ = some (.int .i64 0) := by rw [Lib.cell_of_heap hfin]; rfl
          have v2 : WF.cell? ⟨w.heap.size, 2, none⟩ = some (.string ⟨#[]⟩) := by rw [Lib.cell_of_heap hfin]; rfl
          have v3 : WF.cell? ⟨w.heap.size, 3, none⟩ = some (.slice a ts.length c) := by rw [Lib.cell_of_heap hfin]; rfl
          have v4 : WF.cell? ⟨w.heap.size, 4, none⟩ = some (.slice (some ⟨gm, 0, none⟩) nm cm) := by rw [Lib.cell_of_heap hfin]; rfl
          have HP := Lib.hid hpost
          clear hfin hpost hres y0 y1 y2 y3 y4
          refine bodyPost_ret (v := Fld.val ⟨o, 0, ⟨#[]⟩, a, ts.length, c, some ⟨gm, 0, none⟩, nm, cm⟩) ?_ rfl HP.out
          unfold Fld.val
          rw [results_cell1 rfl]
          go_simp
          all_goals rfl
end Go.Proofs.YtjhgmmcglonokaaGreatDoor
