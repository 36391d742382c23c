/-
  The program's reader of a mark.
  A list that a reader reads: one or more, with a byte between.
-/
import Derived.Test.YtjhgmmcglonokaaGreatDoorReadRunL
import Derived.Test.YtjhgmmcglonokaaGreatDoorVmParse
import Derived.Test.YtjhgmmcglonokaaGreatDoorJ27
import Derived.Deep.AppendLies
import Derived.Laws.OwnMore
namespace Go.Proofs.YtjhgmmcglonokaaGreatDoor
open Go.RowKit
set_option linter.unusedVariables false
set_option linter.unusedSimpArgs false

def MarkRP (b : Nat) (s : ByteArray) (p : Nat) (w : World) (e : Ending) (w' : World) : Prop :=
  w.grownBy w' (some b) ∧ ((Hid (rdMark (restB s p) = none) ∧ e = Fell) ∨ ∃ (x : Int × Int) (q : Nat), p ≤ q ∧ True ∧ Hid (rdMark (restB s p) = some (x, restB s q)) ∧ e = .returned (.agg #[.int .i64 x.1, .int .i64 x.2]) ∧ RdS w' b s q)
theorem results_cellR {fn : Func} {p : Tmp} {ty : TypeId} (h : fn.results = #[.cell p ty]) (tmps : Array Value) (P : Program) (w : World) :
    (results fn tmps).run P w = ((asAddr (tmps.getD p undef)).run P w).andThen fun a w₁ => (loadVar ty a).run P w₁ := by
  simp only [results, h]
  simp [Sem.run_bind, Result.andThen]
theorem mkSize2 : (Tryz.prog.info? 93).map (·.size) = some 2 := by kernel_rfl
theorem grown_blockR {w w' : World} {b g : Nat} (h : w.grownBy w' (some b)) (hg : g < w.heap.size) (hn : g ≠ b) : w'.heap[g]? = w.heap[g]? := h.block g hg (fun e => hn (Option.some.inj e))
set_option maxHeartbeats 4000000 in
theorem markRC (w0 : World) (b : Nat) (s : ByteArray) (p : Nat) (w : World) (h : RdS w b s p) (hs : s.size ≤ 1048576) (hL : LaidE w0) (hB : Below w0.heap.size w0 w) (hb : w0.heap.size ≤ b) :
    Calls Tryz.prog 118 #[.pointer (some ⟨b, 0, none⟩)] w (MarkRP b s p w) := by
  have hA : Below w.heap.size w (w.alloc (.cells #[.int .i64 0, .int .i64 0] 93)) := (Below.refl _ _).alloc (Nat.le_refl _) _
  have hlt := h.lt
  have M : Hid (∀ (q : Nat) (W : World), RdS W b s q → Below w0.heap.size w0 W → Calls Tryz.prog 93 #[.pointer (some ⟨b, 0, none⟩)] W (RdNumPost b s q W)) := fun q W h1 h2 => numberC w0 b s q W h1 hs hL h2 hb
  have NE : Hid (∀ (q : Nat) (W : World), RdS W b s q → Calls Tryz.prog 97 #[.pointer (some ⟨b, 0, none⟩), .int .u8 58] W (NeedPost 58 b s q W)) := fun q W h1 => needC 58 58 rfl b s q W h1 hs
  have K := Lib.hid (M.out p _ (h.kept hA) (hB.trans (hA.mono hB.size)))
  have HB := Lib.hid (hB.trans (hA.mono hB.size))
  have HA : Hid (w.grownBy (w.alloc (.cells #[.int .i64 0, .int .i64 0] 93)) (some b)) := ⟨hA.os, hA.tape, hA.output, hA.size, fun i hi _ => hA.block i hi⟩
  have HX0 : Hid ((w.alloc (.cells #[.int .i64 0, .int .i64 0] 93)).heap[w.heap.size]? = some (.cells #[.int .i64 0, .int .i64 0] 93 (0, 0))) := heap_alloc_new w _
  have hz : w.heap.size < (w.alloc (.cells #[.int .i64 0, .int .i64 0] 93)).heap.size := by simp
  clear h hL hB hA
  go_enter Tryz.func118, Tryz.ntmps118
  go_wp2_with fail
  generalize hwA : w.alloc (.cells #[.int .i64 0, .int .i64 0] 93) = wA at *
  generalize hgx : w.heap.size = g at *
  refine K.out.mono ?_
  rintro e w1 ⟨hg0, ⟨hn1, he⟩ | ⟨v1, q1, hq1, hv1, rfl, hr1⟩⟩
  · unfold Fell at he
    subst he
    have HGf := Lib.hid (grown_trans HA.out hg0)
    have HNf := Lib.hid hn1
    clear hg0 hn1
    go_wp2
    refine ⟨rfl, HGf.out, Or.inl ⟨Lib.hid ?_, rfl⟩⟩
    unfold rdMark; rw [HNf.out.out]; rfl
  have HV1 := Lib.hid hv1
  have HG1 := Lib.hid (grown_trans HA.out hg0)
  have HX1 := Lib.hid ((grown_blockR hg0 (by omega) (by omega)).trans HX0.out)
  have hB1 := own_below HB.out hb hg0
  have hz1 : g < w1.heap.size := Nat.lt_of_lt_of_le hz hg0.size
  have K1 := Lib.hid (NE.out _ _ hr1)
  have HB1 := Lib.hid hB1
  clear hv1 hr1 hg0 hB1 HX0 HA hz K NE
  go_wp2_with fail
  refine K1.out.mono ?_
  rintro e w2 ⟨hg1, ⟨hn2, he⟩ | ⟨hn2, rfl, hr2⟩⟩
  · unfold Fell at he
    subst he
    have HGf := Lib.hid (grown_trans HG1.out hg1)
    have HNf := Lib.hid hn2
    clear hg1 hn2
    go_wp2
    refine ⟨rfl, HGf.out, Or.inl ⟨Lib.hid ?_, rfl⟩⟩
    unfold rdMark; rw [HV1.out.out, Option.bind_some]; simp only; rw [HNf.out]; rfl
  have HV2 := Lib.hid hn2
  have HG2 := Lib.hid (grown_trans HG1.out hg1)
  have HX2 := Lib.hid ((grown_blockR hg1 (by omega) (by omega)).trans HX1.out)
  have hB2 := own_below HB1.out hb hg1
  have hz2 : g < w2.heap.size := Nat.lt_of_lt_of_le hz1 hg1.size
  have K2 := Lib.hid (M.out _ _ hr2 hB2)
  have HB2 := Lib.hid hB2
  clear hn2 hr2 hg1 hB2 HX1 HB1 hz1 K1 M
  go_wp2_with fail
  refine K2.out.mono ?_
  rintro e w3 ⟨hg2, ⟨hn3, he⟩ | ⟨v2, q2, hq2, hv2, rfl, hr3⟩⟩
  · unfold Fell at he
    subst he
    have HGf := Lib.hid (grown_trans HG2.out hg2)
    have HNf := Lib.hid hn3
    clear hg2 hn3
    go_wp2
    refine ⟨rfl, HGf.out, Or.inl ⟨Lib.hid ?_, rfl⟩⟩
    unfold rdMark; rw [HV1.out.out, Option.bind_some]; simp only; rw [HV2.out, Option.bind_some, HNf.out.out]; rfl
  have HG3 := Lib.hid (grown_trans HG2.out hg2)
  have HX3 := Lib.hid ((grown_blockR hg2 (by omega) (by omega)).trans HX2.out)
  have HR := Lib.hid hr3
  have HDd : Hid (rdMark (restB s p) = some ((v1, v2), restB s q2)) := by
    refine Lib.hid ?_
    unfold rdMark
    rw [HV1.out.out, Option.bind_some]; simp only; rw [HV2.out, Option.bind_some, hv2.out]; rfl
  clear hv2 hr3 hg2 HX2 HB2 hz2 K2 HG1 HG2 HV1 HV2
  go_wp2_with (first
    | (refine wpList_store_row rfl 93 _ _ rfl g #[.int .i64 v1, .int .i64 v2] rfl rfl 93 #[.int .i64 0, .int .i64 0] HX3.out mkSize2 rfl (by simp [Value.oneCell']) ?_)
    | fail)
  have hB5 : w3.grownBy (w3.setRow g #[.int .i64 v1, .int .i64 v2]) (some g) := grown_setRowT _ _ _
  have R5 := setRow_heap _ g _ #[Value.int .i64 v1, Value.int .i64 v2] _ _ HX3.out
  have y0 : (w3.setRow g #[.int .i64 v1, .int .i64 v2]).cell? ⟨g, 0, none⟩ = some (.int .i64 v1) := by rw [Lib.cell_of_heap R5]; rfl
  have y1 : (w3.setRow g #[.int .i64 v1, .int .i64 v2]).cell? ⟨g, 1, none⟩ = some (.int .i64 v2) := by rw [Lib.cell_of_heap R5]; rfl
  have hgb : g ≠ b := by omega
  have hR5 : RdS (w3.setRow g #[.int .i64 v1, .int .i64 v2]) b s q2 := HR.out.grown hB5 hgb
  have hG5 : w.grownBy (w3.setRow g #[.int .i64 v1, .int .i64 v2]) (some b) := grown_own HG3.out hB5 (by omega)
  generalize w3.setRow g #[.int .i64 v1, .int .i64 v2] = w5 at *
  (try simp only [Exit.inBlock, Exit.then])
  refine bodyPost_ret (v := .agg #[.int .i64 v1, .int .i64 v2]) ?_ rfl ⟨hG5, Or.inr ⟨(v1, v2), q2, by omega, trivial, HDd, rfl, hR5⟩⟩
  rw [results_cellR rfl]
  go_simp
end Go.Proofs.YtjhgmmcglonokaaGreatDoor

namespace Go.Proofs.YtjhgmmcglonokaaGreatDoor
open Go.RowKit
set_option linter.unusedVariables false
set_option linter.unusedSimpArgs false

def cellsM (l : List (Int × Int)) : List Value := l.flatMap fun x => cells2 x
theorem cellsM_snoc (l : List (Int × Int)) (x : (Int × Int)) : cellsM (l ++ [x]) = cellsM l ++ cells2 x := by simp [cellsM]
def ListPostM (cb : UInt8) (b : Nat) (s : ByteArray) (p : Nat) (w : World) (e : Ending) (w' : World) : Prop :=
  w.grownBy w' (some b) ∧ ((Hid (rdList cb rdMark (restB s p) = none) ∧ e = Fell) ∨ ∃ (l : List (Int × Int)) (q g cap : Nat), p ≤ q ∧ (∀ x ∈ l, True) ∧ 1 ≤ l.length ∧ l.length ≤ s.size + 1 ∧ l.length ≤ q + 1 ∧ Hid (rdList cb rdMark (restB s p) = some (l, restB s q)) ∧ e = .returned (.slice (some ⟨g, 0, none⟩) l.length cap) ∧ w'.ownsRow w.heap.size 93 2 (.slice (some ⟨g, 0, none⟩) l.length cap) l.length (cellsM l) ∧ g ≠ b ∧ RdS w' b s q)
theorem own_oneM (w : World) (B : Nat) (hB : B ≤ w.heap.size) (x : (Int × Int)) : (w.alloc (.cells (#[.int .i64 x.1, .int .i64 x.2]) 93)).ownsRow B 93 2 (.slice (some ⟨w.heap.size, 0, none⟩) 1 1) 1 (cellsM [x]) := by
  have h := World.ownsRow_lit (base := B) (e := 93) (size := 2) w (#[.int .i64 x.1, .int .i64 x.2]) 1 hB (by unfold maxLen; omega) (by rfl)
  have e : cellsM [x] = (#[.int .i64 x.1, .int .i64 x.2]).toList := by simp [cellsM, cells2]
  rw [e]; exact h
set_option maxRecDepth 100000 in
set_option maxHeartbeats 4000000 in
theorem listMC (cb : UInt8) (kb : Int) (hkb : kb = (cb.toNat : Int)) (w0 : World) (b : Nat) (s : ByteArray) (p : Nat) (w : World) (h : RdS w b s p) (hs : s.size ≤ 1048576) (hB : Below w0.heap.size w0 w) (hb : w0.heap.size ≤ b)
    (hM : ∀ (q : Nat) (W : World), RdS W b s q → Below w0.heap.size w0 W → Calls Tryz.prog 118 #[.pointer (some ⟨b, 0, none⟩)] W (MarkRP b s q W)) :
    Calls Tryz.prog 117 #[.pointer (some ⟨b, 0, none⟩), .int .u8 kb, .func (.func 118) #[.pointer (some ⟨b, 0, none⟩)] #[]] w (ListPostM cb b s p w) := by
  obtain ⟨i0, hi, hz0, hz1, hz2⟩ := info_parts infoMark
  have hlt := h.lt
  have M := Lib.hid hM
  have K := Lib.hid (hM p w h hB)
  have HB := Lib.hid hB
  have HKB := Lib.hid hkb
  clear h hM hB hkb
  go_enter Tryz.func117, Tryz.ntmps117
  go_wp2_with fail
  refine K.out.mono ?_
  rintro e w1 ⟨hg, ⟨hn, he⟩ | ⟨x0, q0, hq0, hx0, hp0, rfl, hr⟩⟩
  · unfold Fell at he
    subst he
    have HG := Lib.hid hg
    have HN := Lib.hid hn
    clear hg hn
    go_wp2
    refine ⟨rfl, HG.out, Or.inl ⟨Lib.hid ?_, rfl⟩⟩
    unfold rdList; rw [HN.out.out]
  have hw1 : w.heap.size ≤ w1.heap.size := hg.size
  have HO := Lib.hid (own_oneM w1 w.heap.size hw1 x0)
  have HG := Lib.hid (grown_trans hg (grown_new w1 (.cells (#[.int .i64 x0.1, .int .i64 x0.2]) 93) _))
  have HR := Lib.hid (hr.kept ((Below.refl _ _).alloc (Nat.le_refl _) (.cells (#[.int .i64 x0.1, .int .i64 x0.2]) 93)))
  have HP : Hid (rdList cb rdMark (restB s p) = rdTail cb rdMark (restB s q0).length (restB s q0) [x0]) := by
    refine Lib.hid ?_
    unfold rdList; rw [hp0.out]
  have HX0 := Lib.hid hx0
  clear hg hr hp0 hx0 K
  skip
  go_wp2_with fail
  generalize w1.alloc (.cells #[.int .i64 x0.1, .int .i64 x0.2] 93) = wL at *
  generalize w1.heap.size = gL at *
  go_loopw [7] (fun vl wr => ∃ (acc : List (Int × Int)) (q g cap m : Nat), vl = .slice (some ⟨g, 0, none⟩) acc.length cap ∧ 1 ≤ acc.length ∧ acc.length ≤ q + 1 ∧ p ≤ q ∧ wr.ownsRow w.heap.size 93 2 (.slice (some ⟨g, 0, none⟩) acc.length cap) acc.length (cellsM acc) ∧ RdS wr b s q ∧ w.grownBy wr (some b) ∧ Hid (∀ x ∈ acc, True) ∧ Hid (rdList cb rdMark (restB s p) = rdTail cb rdMark m (restB s q) acc) ∧ (restB s q).length ≤ m) (fun vl _ => s.size + 2 - lenV vl)
  case atStart => exact ⟨[x0], q0, gL, 1, _, rfl, by simp, by simp, hq0, HO.out, HR.out, HG.out, Lib.hid (by intro x hx; simp at hx; subst hx; exact HX0.out), HP, Nat.le_refl _⟩
  case round =>
    obtain ⟨acc, q, g, cap, m, rfl, ha1, haq, hpq, hown, hr, hg, hxs, hP, hm⟩ := hrel
    have hqs := hr.le
    have hgb := (hown.lt g rfl)
    have hgn : g ≠ b := by omega
    have HN := Lib.hid (nextC cb kb HKB.out b s q wr hr hs)
    have HG2 := Lib.hid hg
    have HOWN := Lib.hid hown
    have HPm := Lib.hid hP
    clear HO HG HR HP hr hg hown hP
    go_wp2_with fail
    refine HN.out.mono ?_
    rintro e w2 ⟨hg2, ⟨hn2, rfl, hr2⟩ | ⟨hn2, rfl, hr2⟩⟩
    · have HG3 := Lib.hid (grown_trans HG2.out hg2)
      have HO3 := Lib.hid (HOWN.out.kept hg2 (Or.inr (by simp [Value.ownBlock]; exact hgn)))
      have HR3 := Lib.hid hr2
      have HN2 := Lib.hid hn2
      clear hg2 hr2 hn2
      go_wp2
      go_ret
      refine ⟨HG3.out, Or.inr ⟨acc, q, g, cap, hpq, hxs.out, ha1, by omega, haq, Lib.hid ?_, rfl, HO3.out, hgn, HR3.out⟩⟩
      rw [HPm.out.out]; exact rdTail_stop HN2.out _ _
    · have hB2 := own_below HB.out hb (grown_trans HG2.out hg2)
      have HM2 := Lib.hid (M.out _ _ hr2 hB2)
      have HG3 := Lib.hid (grown_trans HG2.out hg2)
      have HO3 := Lib.hid (HOWN.out.kept hg2 (Or.inr (by simp [Value.ownBlock]; exact hgn)))
      have HN2 := Lib.hid hn2
      have hq1 := hr2.le
      clear hg2 hr2 hn2 hB2
      go_wp2_with fail
      refine HM2.out.mono ?_
      rintro e w3 ⟨hg3, ⟨hn3, he⟩ | ⟨x, q2, hq2, hx, hp3, rfl, hr3⟩⟩
      · unfold Fell at he
        subst he
        have HG4 := Lib.hid (grown_trans HG3.out hg3)
        have HN3 := Lib.hid hn3
        clear hg3 hn3
        go_wp2
        refine ⟨rfl, HG4.out, Or.inl ⟨Lib.hid ?_, rfl⟩⟩
        rw [HPm.out.out]; exact rdTail_fell HN2.out HN3.out.out hm _
      · have hb3 := grown_trans HG3.out hg3
        have HO4 := Lib.hid ((HO3.out.kept hg3 (Or.inr (by simp [Value.ownBlock]; exact hgn))).alloc (.cells (#[.int .i64 x.1, .int .i64 x.2]) 93))
        have HG4 := Lib.hid (grown_trans hb3 (grown_new w3 (.cells (#[.int .i64 x.1, .int .i64 x.2]) 93) _))
        have HR4 := Lib.hid (hr3.kept ((Below.refl _ _).alloc (Nat.le_refl _) (.cells (#[.int .i64 x.1, .int .i64 x.2]) 93)))
        have HX4 : Hid ((w3.alloc (.cells (#[.int .i64 x.1, .int .i64 x.2]) 93)).heap[w3.heap.size]? = some (.cells (#[.int .i64 x.1, .int .i64 x.2]) 93 (0, 0))) := heap_alloc_new w3 _
        have hz4 : w.heap.size ≤ (w3.alloc (.cells (#[.int .i64 x.1, .int .i64 x.2]) 93)).heap.size := HG4.out.size
        obtain ⟨m', hm1, hm2, hm3⟩ := rdTail_more HN2.out hp3.out hm acc
        have HP4 : Hid (rdList cb rdMark (restB s p) = rdTail cb rdMark m' (restB s q2) (acc ++ [x])) := Lib.hid (by rw [HPm.out.out]; exact hm3)
        have hm4 : (restB s q2).length ≤ m' := by rw [restB_len] at hm2 ⊢; omega
        have HXa : Hid (∀ y ∈ acc ++ [x], True) := Lib.hid (by intro y hy; rcases List.mem_append.1 hy with hy | hy; exact hxs.out y hy; simp at hy; subst hy; exact hx)
        have hal : acc.length ≤ 1048577 := by omega
        clear hg3 hr3 hp3 hb3 hm3 hx hxs hm HPm HG2 HG3 HOWN HO3 HM2 HN HN2 hm1 hm2
        skip
        go_wp2_with (at_builtin; refine wpList_append_lies _ rfl _ _ 35 rfl w.heap.size 93 i0 (.agg #[.int .i64 0, .int .i64 0]) 2 16 Tryz.underlying35 hi hz0 hz1 hz2 rfl (by decide) (.slice (some ⟨g, 0, none⟩) acc.length cap) acc.length (cellsM acc) rfl HO4.out ⟨w3.heap.size, 0, none⟩ 1 1 [.int .i64 x.1, .int .i64 x.2] rfl rfl (World.news_of_block HX4.out) (by intro u hu; simp at hu; first | (subst hu; rfl) | (rcases hu with rfl | rfl | rfl | rfl <;> rfl)) (by decide) (by unfold maxLen; omega) (by omega) hz4 _ rfl ?_; intro g5 cap5 w5 hown5 hg5 hgg5 hlt5)
        have hg5' : (w3.alloc (.cells #[.int .i64 x.1, .int .i64 x.2] 93)).grownBy w5 (some g) := hg5
        have HG5 := Lib.hid (grown_own HG4.out hg5' hgb.1)
        have HR5 := Lib.hid (HR4.out.grown hg5' hgn)
        have HO5 : Hid (w5.ownsRow w.heap.size 93 2 (.slice (some ⟨g5, 0, none⟩) (acc ++ [x]).length cap5) (acc ++ [x]).length (cellsM (acc ++ [x]))) := Lib.hid (by rw [List.length_append, List.length_singleton, cellsM_snoc]; exact hown5)
        clear hg5 hg5' hown5 hgg5 hlt5 HO4 HG4 HR4 HX4
        go_wp2
        go_roundw
        case rel => exact ⟨acc ++ [x], q2, g5, cap5, m', by simp, by simp, by simp; omega, by omega, HO5.out, HR5.out, HG5.out, HXa, HP4, hm4⟩
        case measure => simp [lenV]; omega
end Go.Proofs.YtjhgmmcglonokaaGreatDoor
