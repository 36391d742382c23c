/-
  What the program's WireGet returns at every text that is not too great.
-/
import Derived.Test.YtifpdamghmlcfaaDoorIter
import Derived.Test.YtifpdamghmlcfaaDoorErrIs
namespace Go.Proofs.YtifpdamghmlcfaaDoor
open Go.RowKit Go.Shelf
set_option linter.unusedVariables false
attribute [local go_sem] Oper.semAt_some

theorem wordsFn (n : Nat) (t : ByteArray) (w : World) :
    CallsIn Fence.wide n Tryd.prog 20 #[.string t] w fun e w' => e = .returned (.func (.func 30) #[] #[.pointer (some ⟨w.heap.size, 0, none⟩)]) ∧ w' = w.alloc (.cells #[.string t] 9) := by
  refine callsIn_of_wp Tryd.func20 rfl trivial ?_ rfl
  simp only [Tryd.ntmps20, List.size_toArray, List.length_cons, List.length_nil, Nat.reduceAdd, Nat.reduceSub, Array.replicate_succ, Array.replicate_zero, List.push_toArray, List.append_toArray, List.nil_append, List.cons_append]
  gi_wp2
  go_ret
  exact ⟨rfl, rfl⟩

theorem info_str : (Tryd.prog.info? 9).map (fun i => (i.zero, i.size, i.bytes)) = some (some (.string ⟨#[]⟩), 1, 16) := by kernel_rfl

/-- What comes back: owned words, and whether the text is words. -/
def GetPost (t : ByteArray) (w : World) (e : Ending) (w' : World) : Prop := ∃ (ws : List ByteArray) (b : Bool) (v : Value), e = .returned (.tuple #[v, .bool b]) ∧ w'.ownsRow w.heap.size 9 1 v ws.length (ws.map Value.string) ∧ Hid (GetIs t.data.toList ws b) ∧ Below w.heap.size w w'

def fstL (pre : List (ByteArray × Bool)) : List Value := pre.map fun x => Value.string x.1
theorem fstL_ok (ws : List ByteArray) : fstL (okL ws) = ws.map Value.string := by simp [fstL, okL, Function.comp_def]
theorem fstL_snoc (pre : List (ByteArray × Bool)) (x : ByteArray × Bool) : fstL (pre ++ [x]) = fstL pre ++ [Value.string x.1] := by simp [fstL]
def Fine (pre : List (ByteArray × Bool)) : Prop := pre.length ≤ 40 ∧ ∀ x ∈ pre, x.2 = true
def Left (pre : List (ByteArray × Bool)) : Prop := 40 < pre.length ∨ ∃ x ∈ pre, x.2 = false
theorem all_done {t : List UInt8} {xs : List (ByteArray × Bool)} (hs : t.length ≤ 6000) (h : SAll t xs) (hf : Fine xs) : ∃ ws, xs = okL ws ∧ GetIs t ws true := by
  rcases h with ⟨ws, rfl, h2⟩ | ⟨ws, r, rfl, -, -, -⟩
  · exact ⟨ws, rfl, get_ok hs h2 (by have := hf.1; simpa [okL] using this)⟩
  · have := hf.2 bad0 (by simp)
    simp [bad0] at this
theorem part_stop {t : List UInt8} {xs : List (ByteArray × Bool)} (hs : t.length ≤ 6000) (h : SPart t xs) (hl : Left xs) : GetIs t [] false := by
  rcases h with ⟨ws, r, rfl, h2⟩ | ⟨ws, r, rfl, h2, h3, h4⟩
  · rcases hl with hl | ⟨x, hx, hf⟩
    · exact get_many hs h2 (Or.inl (by simpa [okL] using hl))
    · simp [okL] at hx
      obtain ⟨y, -, rfl⟩ := hx
      cases hf
  · exact get_bad hs h2 h3 h4

set_option maxRecDepth 100000 in
set_option maxHeartbeats 8000000 in
theorem implGetIn (p : Addr) (t : ByteArray) (n : Nat) (hn : 3 ≤ n) (w : World) (hs : t.size ≤ 1048576) (hL : LaidW p w) :
    CallsIn Fence.wide n Tryd.prog 6 #[.string t] w (GetPost t w) := by
  have h1 : 1 ≤ n := by omega
  have htl : t.data.toList.length = t.size := by simp
  have Htl := Lib.hid htl
  clear htl
  obtain ⟨i0, hi, hz0, hz1, hz2⟩ := info_parts info_str
  refine callsIn_of_wp_marks Tryd.func6 rfl trivial ?_ rfl
  simp only [Tryd.ntmps6, List.size_toArray, List.length_cons, List.length_nil, Nat.reduceAdd, Nat.reduceSub, Array.replicate_succ, Array.replicate_zero, List.push_toArray, List.append_toArray, List.nil_append, List.cons_append]
  rcases Nat.lt_or_ge 6000 t.size with c1 | c1
  · gi_wp2
    refine ⟨.tuple #[.slice none 0 0, .bool false], ?_, [], false, .slice none 0 0, rfl, World.ownsRow_nil _ _ _ _, get_long (by rw [Htl.out]; omega), ?_⟩
    · simp [results, Tryd.f6, go_sem]
    · exact ((Below.refl _ w).alloc (Nat.le_refl _) _).alloc (by simp) _
  · gi_wp2_with fail
    refine ⟨trivial, (wordsFn _ t _).mono ?_⟩
    rintro e w' ⟨rfl, rfl⟩
    gi_wp2_with fail
    have bO := Boxed.new w 24 (.slice none 0 0)
    have bR := Boxed.new (w.alloc (.cells #[.slice none 0 0] 24)) 4 (.bool false)
    have bL := Boxed.new ((w.alloc (.cells #[.slice none 0 0] 24)).alloc (.cells #[.bool false] 4)) 24 (.slice none 0 0)
    have bT := Boxed.new (((w.alloc (.cells #[.slice none 0 0] 24)).alloc (.cells #[.bool false] 4)).alloc (.cells #[.slice none 0 0] 24)) 9 (.string t)
    simp only [World.size_alloc] at bR bL bT
    have hB0 : Below w.heap.size w ((((w.alloc (.cells #[.slice none 0 0] 24)).alloc (.cells #[.bool false] 4)).alloc (.cells #[.slice none 0 0] 24)).alloc (.cells #[.string t] 9)) :=
      ((((Below.refl _ w).alloc (Nat.le_refl _) _).alloc (by simp) _).alloc (by simp; omega) _).alloc (by simp; omega) _
    refine wpIn_rangeFunc_ownF rfl h1 (gf := 30) (lb := #[.pointer (some ⟨w.heap.size + 1 + 1 + 1, 0, none⟩)]) rfl trivial (enters_of Tryd.func30 (by kernel_rfl) rfl)
      (words_stops p t (n - 1) (w.heap.size + 1 + 1 + 1) (by omega) w _ hL hB0 (by simp) bT.cell hs) belowK_t (belowK_b (by simp; omega)) (Below.refl _ _) (fun _ => rfl)
      (fun pre W => (((∃ v, Boxed W (w.heap.size + 1 + 1) 24 v ∧ W.ownsRow w.heap.size 9 1 v pre.length (fstL pre) ∧ True) ∧ Boxed W w.heap.size 24 (.slice none 0 0)) ∧ Boxed W (w.heap.size + 1) 4 (.bool false)) ∧ Fine pre ∧ Below w.heap.size w W)
      (fun c pre W => (Boxed W w.heap.size 24 (.slice none 0 0) ∧ Boxed W (w.heap.size + 1) 4 (.bool false)) ∧ (c = .ret ∧ Left pre) ∧ Below w.heap.size w W)
      (OwnFrom.and (OwnFrom.and (OwnFrom.and (Own.from (holdsRow_own w.heap.size (w.heap.size + 1 + 1) 24 9 1 (fun pre => pre.length) fstL (fun _ _ => True)) _) (Own.from (boxed_own _ _ _) _)) (Own.from (boxed_own _ _ _) _)) (OwnFrom.and (ownFrom_pure _ _) (ownFrom_below (Nat.le_refl _) (by simp; omega))))
      (fun c => OwnFrom.and (OwnFrom.and (Own.from (boxed_own _ _ _) _) (Own.from (boxed_own _ _ _) _)) (OwnFrom.and (ownFrom_pure _ _) (ownFrom_below (Nat.le_refl _) (by simp; omega))))
      ⟨⟨⟨⟨_, bL.alloc _, World.ownsRow_nil _ _ _ _, trivial⟩, ((bO.alloc _).alloc _).alloc _⟩, (bR.alloc _).alloc _⟩, ⟨by simp, by simp⟩, hB0⟩
      (fun x => { tmps := #[.string t, undef, .pointer (some ⟨w.heap.size, 0, none⟩), .pointer (some ⟨w.heap.size + 1, 0, none⟩), .pointer (some ⟨w.heap.size + 1 + 1, 0, none⟩), .string x.1, errV p x.2, .string t, .int .i64 t.size, .bool (decide (6000 < (t.size : Int))), .string t, .func (.func 30) #[] #[.pointer (some ⟨w.heap.size + 1 + 1 + 1, 0, none⟩)], .string x.1, errV p x.2, undef, undef, undef, undef, undef, undef, undef, undef, undef, undef, undef, undef, undef], defers := [] }) ?assign ?body ?done ?stop
    case assign =>
      intro l x W K hK
      dsimp only [encW]
      gi_wp2
      exact hK
    case body =>
      rintro l pre ⟨x, b⟩ W ⟨⟨⟨⟨v, hv, hrow, -⟩, hO⟩, hR⟩, hf, hB⟩ hlt
      obtain ⟨a, cap, rfl⟩ : ∃ a cap, v = .slice a pre.length cap := by
        rcases hrow.2 with ⟨rfl, h0⟩ | ⟨g, cap, cur, rfl, -⟩
        · exact ⟨none, 0, by rw [h0]⟩
        · exact ⟨_, cap, rfl⟩
      have hgl := laidW_cell (laidW_stays hL hB)
      have hc := hv.cell
      have cO := hO.cell
      have fO := hO.frozen
      have cR := hR.cell
      have fR := hR.frozen
      have Hf := Lib.hid hf
      clear hf
      cases b with
      | false =>
        dsimp only [errV]
        gi_wp2_with fail
        refine ⟨trivial, fun h => (by cases h), (CallsIn.inRound l (callsIn_wide.2 (is_same p _))).mono ?_⟩
        rintro e w' ⟨rfl, rfl⟩
        gi_wp2
        refine ⟨(KeepsOthers.setCell _ _ _).trans (KeepsOthers.setCell _ _ _), ⟨(hO.set _).other (by omega) _, (hR.other (by omega) _).set _⟩, ⟨rfl, Or.inr ⟨(x, false), by simp, rfl⟩⟩, ?_⟩
        exact (hB.setCell (p := ⟨w.heap.size, 0, none⟩) (Nat.le_refl _) _).setCell (p := ⟨w.heap.size + 1, 0, none⟩) (by simp) _
      | true =>
        dsimp only [errV]
        rcases Nat.lt_or_ge pre.length 40 with c2 | c2
        · have e40 : ((pre.length : Int) == 40) = false := by simp; omega
          gi_wp2_with fail
          refine ⟨trivial, fun h => (by cases h), (CallsIn.inRound l (callsIn_wide.2 (is_nil p _))).mono ?_⟩
          rintro e w' ⟨rfl, rfl⟩
          gi_wp2_with (gi_at_builtin; refine wpListIn_append_own _ rfl _ _ 24 rfl w.heap.size 9 i0 (.string ⟨#[]⟩) 1 16 Tryd.underlying24 hi hz0 hz1 hz2 rfl (by decide) _ _ _ rfl (hrow.alloc _) ⟨w'.heap.size, 0, none⟩ 1 1 [.string x] rfl rfl (cell_one_new _ _ _) (by simp [Value.oneCell']) (by unfold maxLen; omega) (by omega) (by have := hB.size; simp; omega) ?_; intro v' w1 hown' hgrow _; obtain ⟨g', cap', rfl⟩ := ownsRow_succ hown'; obtain ⟨hv1, hv2, hr2, hk2, hb2⟩ := hv.appended (by decide) hrow hB.size (by omega) hown' hgrow; have hc1 := hv1.cell; have hf1 := hv1.frozen)
          refine ⟨hk2, hb2, ⟨⟨⟨_, hv2, by simpa [fstL_snoc] using hr2, trivial⟩, ?_⟩, ?_⟩, ⟨by simp; omega, ?_⟩, hB.trans hb2⟩
          · exact ((hO.alloc _).kept hgrow (hO.not_row (by decide) hrow)).other (by omega) _
          · exact ((hR.alloc _).kept hgrow (hR.not_row (by decide) hrow)).other (by omega) _
          · intro y hy
            rcases List.mem_append.1 hy with hy | hy
            · exact Hf.out.2 y hy
            · simp at hy; rw [hy]
        · have e40 : ((pre.length : Int) == 40) = true := by have := Hf.out.1; simp; omega
          gi_wp2_with fail
          refine ⟨trivial, fun h => (by cases h), (CallsIn.inRound l (callsIn_wide.2 (is_nil p _))).mono ?_⟩
          rintro e w' ⟨rfl, rfl⟩
          gi_wp2
          refine ⟨(KeepsOthers.setCell _ _ _).trans (KeepsOthers.setCell _ _ _), ⟨(hO.set _).other (by omega) _, (hR.other (by omega) _).set _⟩, ⟨rfl, Or.inl (by simp; omega)⟩, ?_⟩
          exact (hB.setCell (p := ⟨w.heap.size, 0, none⟩) (Nat.le_refl _) _).setCell (p := ⟨w.heap.size + 1, 0, none⟩) (by simp) _
    case done =>
      rintro D ys W hD hS ⟨⟨⟨⟨v, hv, hrow, -⟩, hO⟩, hR⟩, hf, hB⟩ hK
      obtain ⟨ws, rfl, hget⟩ := all_done (by rw [Htl.out]; omega) hS hf
      obtain ⟨a, cap, rfl⟩ : ∃ a cap, v = .slice a (okL ws).length cap := by
        rcases hrow.2 with ⟨rfl, h0⟩ | ⟨g, cap, cur, rfl, -⟩
        · exact ⟨none, 0, by rw [h0]⟩
        · exact ⟨_, cap, rfl⟩
      have hc := hv.cell
      have cO := hO.cell
      have fO := hO.frozen
      have cR := hR.cell
      have fR := hR.frozen
      gi_wp2
      have hK1 := (KeepsOthers.setCell W ⟨w.heap.size, 0, none⟩ (.slice a (okL ws).length cap)).same D _ hK rfl
      have hK2 := (KeepsOthers.setCell (W.setCell ⟨w.heap.size, 0, none⟩ (.slice a (okL ws).length cap)) ⟨w.heap.size + 1, 0, none⟩ (.bool true)).same D _ hK1 rfl
      refine ⟨by simp, .inl ⟨_, _, rfl, run_takeDeferred hK2, ?_⟩⟩
      have bO2 := (((hO.set (.slice a (okL ws).length cap)).other (B' := w.heap.size + 1) (by omega) (.bool true)))
      have bR2 := (hR.other (B' := w.heap.size) (by omega) (.slice a (okL ws).length cap)).set (.bool true)
      have c1 := cell_kept bO2.cell (grownBy_putObj' _ D (.deferred none)) (fun r e => by cases e; exact ⟨_, hK2, rfl⟩)
      have c2 := cell_kept bR2.cell (grownBy_putObj' _ D (.deferred none)) (fun r e => by cases e; exact ⟨_, hK2, rfl⟩)
      have hrow1 : (W.setCell ⟨w.heap.size, 0, none⟩ (.slice a (okL ws).length cap)).ownsRow w.heap.size 9 1 (.slice a (okL ws).length cap) (okL ws).length (fstL (okL ws)) := hrow.kept (grown_set W ⟨w.heap.size, 0, none⟩ (.slice a (okL ws).length cap)) (Or.inr (Ne.symm (hO.not_row (by decide) hrow)))
      have hrow2 : ((W.setCell ⟨w.heap.size, 0, none⟩ (.slice a (okL ws).length cap)).setCell ⟨w.heap.size + 1, 0, none⟩ (.bool true)).ownsRow w.heap.size 9 1 (.slice a (okL ws).length cap) (okL ws).length (fstL (okL ws)) := hrow1.kept (grown_set _ ⟨w.heap.size + 1, 0, none⟩ (.bool true)) (Or.inr (Ne.symm (hR.not_row (by decide) hrow)))
      refine ⟨.tuple #[.slice a (okL ws).length cap, .bool true], ?_, ws, true, _, rfl, ?_, hget, ?_⟩
      · simp [results, Tryd.f6, go_sem, c1, c2]
      · have hk := ownsRow_putObj (o := .deferred (some [])) hrow2 (.deferred none) hK2 rfl
        rw [fstL_ok] at hk
        rw [show ws.length = (okL ws).length from by simp [okL]]
        exact hk
      · exact ((hB.setCell (p := ⟨w.heap.size, 0, none⟩) (Nat.le_refl _) _).setCell (p := ⟨w.heap.size + 1, 0, none⟩) (by simp) _).trans (belowK_b (w := w) (Nat.le_refl _) _ D _ _ (by simp at hD; omega) hK2 rfl rfl)
    case stop =>
      rintro D c pre W hD hS ⟨⟨hO, hR⟩, ⟨rfl, hl⟩, hB⟩ hK
      gi_wp2
      refine ⟨by simp, .inl ⟨_, _, rfl, run_takeDeferred hK, ?_⟩⟩
      have c1' := cell_kept hO.cell (grownBy_putObj' _ D (.deferred none)) (fun r e => by cases e; exact ⟨_, hK, rfl⟩)
      have c2 := cell_kept hR.cell (grownBy_putObj' _ D (.deferred none)) (fun r e => by cases e; exact ⟨_, hK, rfl⟩)
      refine ⟨.tuple #[.slice none 0 0, .bool false], ?_, [], false, .slice none 0 0, rfl, World.ownsRow_nil _ _ _ _, part_stop (by rw [Htl.out]; omega) hS hl, ?_⟩
      · simp [results, Tryd.f6, go_sem, c1', c2]
      · exact hB.trans (belowK_b (w := w) (Nat.le_refl _) W D _ _ (by simp at hD; omega) hK rfl rfl)
theorem implGet (p : Addr) (t : ByteArray) (w : World) (hs : t.size ≤ 1048576) (hL : LaidW p w) :
    Calls Tryd.prog 6 #[.string t] w (GetPost t w) :=
  callsIn_wide.1 (implGetIn p t 3 (by omega) w hs hL)
end Go.Proofs.YtifpdamghmlcfaaDoor
