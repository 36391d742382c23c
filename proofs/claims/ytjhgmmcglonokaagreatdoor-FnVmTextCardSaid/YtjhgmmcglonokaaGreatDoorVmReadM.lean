/-
  The model's reader of a place.
-/
import Derived.Test.YtjhgmmcglonokaaGreatDoorVmReadI
import Derived.Test.YtjhgmmcglonokaaGreatDoorVmLine
import Derived.Test.YtjhgmmcglonokaaGreatDoorJ26
import Derived.Deep.CutRange
namespace Go.Proofs.YtjhgmmcglonokaaGreatDoor
open Go.RowKit
set_option linter.unusedVariables false
set_option linter.unusedSimpArgs false

/-- A place that is being read, in its box; behind it the words of its line. -/
structure PIn (w : World) (g4 gw cw : Nat) (ws : List ByteArray) (d : Pl) (a : Option Addr) (c : Nat) (W : World) : Prop where
  cell : Cell4 W g4 d.op d.num d.nm (.slice a d.ms.length c)
  fz : W.frozen? ⟨g4, 0, none⟩ = false
  opn : Open4 W g4
  res : W.heap[w.heap.size]? = some (.cells #[.int .i64 0, .int .i64 0, .string ⟨#[]⟩, .slice none 0 0] 48 (0, 0))
  row : W.ownsRow (w.heap.size + 1) 9 1 (.slice (some ⟨gw, 0, none⟩) ws.length cw) ws.length (ws.map Value.string)
  own : W.ownsRow (w.heap.size + 1) 93 2 (.slice a d.ms.length c) d.ms.length (rowsM d.ms)
  ne4 : (Value.slice a d.ms.length c).ownBlock ≠ some g4
  new : (Value.slice a d.ms.length c).ownBlock ≠ some gw
  low : Below w.heap.size w W
  lt : w.heap.size < gw ∧ gw < g4 ∧ g4 < W.heap.size
theorem Cell4.at {w w' : World} {g : Nat} {o n : Int} {s : ByteArray} {v : Value} (h : Cell4 w g o n s v) (e : w'.heap[g]? = w.heap[g]?) : Cell4 w' g o n s v :=
  ⟨(World.cell?_of_block (a := ⟨g, 0, none⟩) e).trans h.1, (World.cell?_of_block (a := ⟨g, 1, none⟩) e).trans h.2.1, (World.cell?_of_block (a := ⟨g, 2, none⟩) e).trans h.2.2.1, (World.cell?_of_block (a := ⟨g, 3, none⟩) e).trans h.2.2.2⟩
theorem Open4.at {w w' : World} {g : Nat} (h : Open4 w g) (e : w'.heap[g]? = w.heap[g]?) : Open4 w' g :=
  ⟨(World.frozen?_of_block (a := ⟨g, 1, none⟩) e).trans h.1, (World.frozen?_of_block (a := ⟨g, 2, none⟩) e).trans h.2.1, (World.frozen?_of_block (a := ⟨g, 3, none⟩) e).trans h.2.2⟩
theorem Cell4.set0 {w : World} {g : Nat} {o n : Int} {s : ByteArray} {v : Value} (h : Cell4 w g o n s v) (x : Int) : Cell4 (w.setCell ⟨g, 0, none⟩ (.int .i64 x)) g x n s v :=
  ⟨World.cell?_setCell_same _ _ _ h.1, by rw [World.cell?_setCell_other _ _ _ _ (by simp)]; exact h.2.1, by rw [World.cell?_setCell_other _ _ _ _ (by simp)]; exact h.2.2.1, by rw [World.cell?_setCell_other _ _ _ _ (by simp)]; exact h.2.2.2⟩
section
variable {w W W' : World} {g4 gw cw c : Nat} {ws : List ByteArray} {d : Pl} {a : Option Addr}
theorem PIn.kept (h : PIn w g4 gw cw ws d a c W) (hb : Below W.heap.size W W') : PIn w g4 gw cw ws d a c W' := by
  have e4 := hb.block g4 h.lt.2.2
  have l := h.lt
  exact ⟨h.cell.at e4, (World.frozen?_of_block (a := ⟨g4, 0, none⟩) e4).trans h.fz, h.opn.at e4, (hb.block _ (by omega)).trans h.res, h.row.kept (row := none) (below_grownM hb) (Classical.em _), h.own.kept (row := none) (below_grownM hb) (Classical.em _), h.ne4, h.new, h.low.trans (hb.mono h.low.size), l.1, l.2.1, Nat.lt_of_lt_of_le l.2.2 hb.size⟩
theorem PIn.setAt (h : PIn w g4 gw cw ws d a c W) (j : Nat) (x : Value) (d' : Pl) (hms : d'.ms = d.ms) (hc : Cell4 (W.setCell ⟨g4, j, none⟩ x) g4 d'.op d'.num d'.nm (.slice a d.ms.length c)) : PIn w g4 gw cw ws d' a c (W.setCell ⟨g4, j, none⟩ x) := by
  have l := h.lt
  obtain ⟨o', n', s', ms'⟩ := d'
  dsimp only at hms hc
  subst hms
  refine ⟨hc, by simpa using h.fz, ⟨by simpa using h.opn.1, by simpa using h.opn.2.1, by simpa using h.opn.2.2⟩, ?_, h.row.kept (grown_set W ⟨g4, j, none⟩ x) (Or.inr ?_), h.own.kept (grown_set W ⟨g4, j, none⟩ x) (Or.inr h.ne4), h.ne4, h.new, h.low.setCell (p := ⟨g4, j, none⟩) (show w.heap.size ≤ g4 by omega) x, l.1, l.2.1, by simpa [World.setCell] using l.2.2⟩
  · rw [Below.heap_setCell _ _ _ _ (by simp; omega)]; exact h.res
  · simp [Value.ownBlock]; omega
theorem PIn.app (h : PIn w g4 gw cw ws d a c W) {m : Int × Int} {g2 cp : Nat} (ho : W'.ownsRow (w.heap.size + 1) 93 2 (.slice (some ⟨g2, 0, none⟩) (d.ms.length + 1) cp) (d.ms.length + 1) (rowsM d.ms ++ [.int .i64 m.1, .int .i64 m.2])) (hg : W.grownBy W' (Value.slice a d.ms.length c).ownBlock) (hat : (Value.slice a d.ms.length c).ownBlock = some g2 ∨ g2 = W.heap.size) :
    W'.cell? ⟨g4, 3, none⟩ = some (.slice a d.ms.length c) ∧ W'.frozen? ⟨g4, 3, none⟩ = false ∧ PIn w g4 gw cw ws ⟨d.op, d.num, d.nm, d.ms ++ [m]⟩ (some ⟨g2, 0, none⟩) cp (W'.setCell ⟨g4, 3, none⟩ (.slice (some ⟨g2, 0, none⟩) (d.ms.length + 1) cp)) := by
  have el : (d.ms ++ [m]).length = d.ms.length + 1 := by simp
  have l := h.lt
  have e4 := hg.block g4 l.2.2 (fun e => h.ne4 e.symm)
  have hc := h.cell.at e4
  have hop := h.opn.at e4
  have hge : ∀ k, (Value.slice a d.ms.length c).ownBlock = some k → w.heap.size + 1 ≤ k := fun k e => (owns_typed h.own e).1
  have hres := (hg.block w.heap.size (by omega) (fun e => by have := hge _ e.symm; omega)).trans h.res
  have hn4 : g2 ≠ g4 := by
    rcases hat with e | e
    · intro e2; subst e2; exact h.ne4 e
    · omega
  have hnw : g2 ≠ gw := by
    rcases hat with e | e
    · intro e2; subst e2; exact h.new e
    · omega
  have hsz := hg.size
  have erow : rowsM (d.ms ++ [m]) = rowsM d.ms ++ [.int .i64 m.1, .int .i64 m.2] := by unfold rowsM; rw [List.flatMap_append]; simp [cells2]
  refine ⟨hc.2.2.2, hop.2.2, by dsimp only; rw [el]; exact hc.set3 _, ?_, ⟨by simpa using hop.1, by simpa using hop.2.1, by simpa using hop.2.2⟩, ?_, ?_, ?_, ?_, ?_, ?_, l.1, l.2.1, ?_⟩
  · have := (World.frozen?_of_block (a := ⟨g4, 0, none⟩) e4).trans h.fz
    simpa using this
  · rw [Below.heap_setCell _ _ _ _ (by simp; omega)]; exact hres
  · refine (h.row.kept hg (Or.inr (fun e => h.new e.symm))).kept (grown_set W' ⟨g4, 3, none⟩ _) (Or.inr ?_)
    simp [Value.ownBlock]; omega
  · dsimp only
    rw [erow, List.length_append, List.length_singleton]
    refine ho.kept (grown_set W' ⟨g4, 3, none⟩ _) (Or.inr ?_)
    simp [Value.ownBlock]; exact hn4
  · simp [Value.ownBlock]; exact hn4
  · simp [Value.ownBlock]; exact hnw
  · exact ((h.low.grown hg h.low.size (fun k e => by have := hge k e; omega)).setCell (p := ⟨g4, 3, none⟩) (show w.heap.size ≤ g4 by omega) _)
  · have : g4 < W'.heap.size := by omega
    simpa [World.setCell] using this
end
/-- What the words up to one say. -/
def accM (o : Int) (ws : List ByteArray) (k : Nat) : Pl := (((ws.take k).drop 1).map (·.data.toList)).foldl argM ⟨o, 0, ⟨#[]⟩, []⟩
theorem accM_one (o : Int) (ws : List ByteArray) : accM o ws 1 = ⟨o, 0, ⟨#[]⟩, []⟩ := by
  unfold accM
  cases ws with
  | nil => rfl
  | cons x r => simp
theorem accM_succ (o : Int) (ws : List ByteArray) {k : Nat} (h1 : 1 ≤ k) (h : k < ws.length) : accM o ws (k + 1) = argM (accM o ws k) (ws[k]'h).data.toList := by
  unfold accM
  rw [List.take_succ_eq_append_getElem h, List.drop_append_of_le_length (by simp; omega), List.map_append, List.foldl_append]
  rfl
theorem accM_end {ws : List ByteArray} {l : List UInt8} {k : Nat} (hw : ws.map (·.data.toList) = splitB 32 l) (h1 : 1 ≤ ws.length) (hk : k = ws.length ∧ k ≤ 7 ∨ k = 7) : accM (opAt 12 (ws[0]'(by omega)).data.toList) ws k = placeM l := by
  have e0 : (splitB 32 l).headD [] = (ws[0]'(by omega)).data.toList := by
    rw [← hw]
    cases ws with
    | nil => simp at h1
    | cons x r => rfl
  have e7 : accM (opAt 12 (ws[0]'(by omega)).data.toList) ws 7 = placeM l := by
    unfold accM placeM
    rw [e0, ← hw, ← List.map_drop, ← List.map_take]
    congr 2
    exact List.drop_take (i := 1) (j := 7) (l := ws)
  rw [← e7]
  rcases hk with ⟨rfl, h⟩ | rfl
  · unfold accM
    rw [List.take_of_length_le (Nat.le_refl _), List.take_of_length_le h]
  · rfl
def PlMP (s : ByteArray) (w : World) (e : Ending) (w' : World) : Prop := ∃ (d : Pl) (f : FI), Hid (d = placeM s.data.toList) ∧ e = .returned (.agg #[.int .i64 f.op, .int .i64 f.num, .string f.name, .slice f.ma f.ml f.mc]) ∧ PlO w.heap.size w' d f ∧ SmallP d ∧ Below w.heap.size w w'
def SW (k gw n cw : Nat) (x0 : ByteArray) (i : Nat) (W : World) (v : Value) : Prop := match i with
  | 0 => ∃ G : Nat, v = .slice (some ⟨G, 0, none⟩) 12 12 ∧ G < W.heap.size ∧ W.cell? ⟨G, k, none⟩ = some (.string ⟨(wordV (k : Int)).toArray⟩)
  | 1 => v = .int .i64 k
  | 2 => ∃ G : Nat, v = .pointer (some ⟨G, k, none⟩) ∧ G < W.heap.size ∧ W.cell? ⟨G, k, none⟩ = some (.string ⟨(wordV (k : Int)).toArray⟩)
  | 3 => v = .string ⟨(wordV (k : Int)).toArray⟩
  | 4 => v = .slice (some ⟨gw, 0, none⟩) n cw
  | 5 => v = .pointer (some ⟨gw, 0, none⟩)
  | 6 => v = .string x0
  | 7 => v = .bool (wordV (k : Int) == x0.toList)
  | _ => True
theorem SW.kept {k gw n cw : Nat} {x0 : ByteArray} {i : Nat} {W W' : World} {v : Value} (h : SW k gw n cw x0 i W v) (hb : Below W.heap.size W W') : SW k gw n cw x0 i W' v := by
  unfold SW at h ⊢
  split at h
  · obtain ⟨G, h1, h2, h3⟩ := h
    exact ⟨G, h1, Nat.lt_of_lt_of_le h2 hb.size, (hb.cell (p := ⟨G, k, none⟩) h2).trans h3⟩
  · exact h
  · obtain ⟨G, h1, h2, h3⟩ := h
    exact ⟨G, h1, Nat.lt_of_lt_of_le h2 hb.size, (hb.cell (p := ⟨G, k, none⟩) h2).trans h3⟩
  all_goals exact h
def SM (g4 gm nm cm n c : Nat) (a : Option Addr) (y0 y1 : ByteArray) (i : Nat) (W : World) (v : Value) : Prop := match i with
  | 0 => v = .pointer (some ⟨g4, 3, none⟩)
  | 1 => v = .slice a n c
  | 2 => v = .slice (some ⟨gm, 0, none⟩) nm cm
  | 3 => v = .pointer (some ⟨gm, 0, none⟩)
  | 4 => v = .string y0
  | 5 => v = .int .i64 (numV y0.data.toList)
  | 6 => v = .slice (some ⟨gm, 0, none⟩) nm cm
  | 7 => v = .slice (some ⟨gm, 0, none⟩) nm cm
  | 8 => v = .int .i64 nm
  | 9 => v = .int .i64 ((nm - 1 : Nat) : Int)
  | 10 => v = .pointer (some ⟨gm, nm - 1, none⟩)
  | 11 => v = .string y1
  | 12 => v = .int .i64 (numV y1.data.toList)
  | 13 => v = .agg #[.int .i64 (numV y0.data.toList), .int .i64 (numV y1.data.toList)]
  | 14 => ∃ gx : Nat, v = .slice (some ⟨gx, 0, none⟩) 1 1 ∧ W.heap[gx]? = some (.cells #[.int .i64 (numV y0.data.toList), .int .i64 (numV y1.data.toList)] 93 (0, 0))
  | _ => True
theorem SM.kept {g4 gm nm cm n c : Nat} {a : Option Addr} {y0 y1 : ByteArray} {i : Nat} {W W' : World} {v : Value} (h : SM g4 gm nm cm n c a y0 y1 i W v) (hb : Below W.heap.size W W') : SM g4 gm nm cm n c a y0 y1 i W' v := by
  unfold SM at h ⊢
  split at h
  case h_15 =>
    obtain ⟨gx, h1, h2⟩ := h
    exact ⟨gx, h1, (hb.block _ (lt_heapT h2)).trans h2⟩
  all_goals exact h
theorem depsM_get {S : Nat → World → Value → Prop} {f : Nat → Value} {w : World} : ∀ {l : List Nat}, Deps S f w l → ∀ {n : Nat}, n ∈ l → S n w (f n)
  | [], _, _, h => by cases h
  | m :: l, hd, n, h => by
    rcases List.mem_cons.1 h with e | e
    · subst e; exact hd.1
    · exact depsM_get hd.2 e
set_option maxRecDepth 100000 in
set_option maxHeartbeats 32000000 in
theorem specPlace (s : ByteArray) (w : World) (hs : s.size ≤ 1600) :
    Calls Tryz.prog 32 #[.string s] w (PlMP s w) := by
  obtain ⟨im0, hmi, hmz0, hmz1, hmz2⟩ := info_parts infoMark
  have hA : Below w.heap.size w (w.alloc (.cells #[.int .i64 0, .int .i64 0, .string ⟨#[]⟩, .slice none 0 0] 48)) := (Below.refl _ _).alloc (Nat.le_refl _) _
  have K := Lib.hid (cut3C 32 32 rfl s (w.alloc (.cells #[.int .i64 0, .int .i64 0, .string ⟨#[]⟩, .slice none 0 0] 48)) (by omega))
  have HA := Lib.hid hA
  have HX0 : Hid ((w.alloc (.cells #[.int .i64 0, .int .i64 0, .string ⟨#[]⟩, .slice none 0 0] 48)).heap[w.heap.size]? = some (.cells #[.int .i64 0, .int .i64 0, .string ⟨#[]⟩, .slice none 0 0] 48 (0, 0))) := heap_alloc_new w _
  have hz : (w.alloc (.cells #[.int .i64 0, .int .i64 0, .string ⟨#[]⟩, .slice none 0 0] 48)).heap.size = w.heap.size + 1 := by simp
  clear hA
  go_enter Tryz.func32, Tryz.ntmps32
  go_wp2_with fail
  generalize w.alloc (.cells #[.int .i64 0, .int .i64 0, .string ⟨#[]⟩, .slice none 0 0] 48) = wA at *
  refine K.out.mono ?_
  rintro e w1 ⟨ws, gw, cw, hws, hl1, hl2, hwsz, rfl, hown, hb⟩
  have HWS : Hid (ws.map (·.data.toList) = splitB 32 s.data.toList) := hws
  have HWZ : Hid (∀ x ∈ ws, x.size ≤ s.size) := hwsz
  have hgw := (hown.lt gw rfl)
  have HXn : Hid ((w1.alloc (.cells #[.int .i64 0, .int .i64 0, .string ⟨#[]⟩, .slice none 0 0] 48)).heap[w1.heap.size]? = some (.cells #[.int .i64 0, .int .i64 0, .string ⟨#[]⟩, .slice none 0 0] 48 (0, 0))) := heap_alloc_new w1 _
  have hR2 := setRow_heap _ w1.heap.size _ #[.int .i64 0, .int .i64 0, .string ⟨#[]⟩, .slice none 0 0] _ _ HXn.out
  have hAl : Below w1.heap.size w1 (w1.alloc (.cells #[.int .i64 0, .int .i64 0, .string ⟨#[]⟩, .slice none 0 0] 48)) := (Below.refl _ _).alloc (Nat.le_refl _) _
  have hgs := grown_setRowT (w1.alloc (.cells #[.int .i64 0, .int .i64 0, .string ⟨#[]⟩, .slice none 0 0] 48)) w1.heap.size #[.int .i64 0, .int .i64 0, .string ⟨#[]⟩, .slice none 0 0]
  have hzn : (w1.alloc (.cells #[.int .i64 0, .int .i64 0, .string ⟨#[]⟩, .slice none 0 0] 48)).heap.size = w1.heap.size + 1 := by simp
  have hbz := hb.size
  have hP2 : PIn w w1.heap.size gw cw ws ⟨0, 0, ⟨#[]⟩, []⟩ none 0 ((w1.alloc (.cells #[.int .i64 0, .int .i64 0, .string ⟨#[]⟩, .slice none 0 0] 48)).setRow w1.heap.size #[.int .i64 0, .int .i64 0, .string ⟨#[]⟩, .slice none 0 0]) := by
    have hlow : Below w.heap.size w (w1.alloc (.cells #[.int .i64 0, .int .i64 0, .string ⟨#[]⟩, .slice none 0 0] 48)) := (HA.out.trans (hb.mono HA.out.size)).alloc (by omega) _
    refine ⟨⟨?_, ?_, ?_, ?_⟩, frozen_of_row _ _ 0 _ _ hR2, ⟨frozen_of_row _ _ 1 _ _ hR2, frozen_of_row _ _ 2 _ _ hR2, frozen_of_row _ _ 3 _ _ hR2⟩, ?_, ?_, World.ownsRow_nil _ _ _ _, by simp [Value.ownBlock], by simp [Value.ownBlock], ?_, by omega, by omega, lt_heapT hR2⟩
    · rw [Lib.cell_of_heap hR2]; rfl
    · rw [Lib.cell_of_heap hR2]; rfl
    · rw [Lib.cell_of_heap hR2]; rfl
    · rw [Lib.cell_of_heap hR2]; rfl
    · refine (hgs.block w.heap.size (by omega) (by simp; omega)).trans ?_
      exact (hAl.block _ (by omega)).trans ((hb.block _ (by omega)).trans HX0.out)
    · rw [hz] at hown
      refine (hown.alloc _).kept hgs (Or.inr ?_)
      simp [Value.ownBlock]; omega
    · exact hlow.grown hgs (by omega) (fun k e => by cases e; omega)
  have HP2 := Lib.hid hP2
  have HL0 : Hid (0 < ws.length) := by show _ < _; omega
  clear hws hwsz hown hb hP2 hR2 hAl hgs hzn hbz K HX0 HA hz
  go_upto_region 3 with (first
    | (refine wpList_store_row rfl 48 _ _ rfl w1.heap.size #[.int .i64 0, .int .i64 0, .string ⟨#[]⟩, .slice none 0 0] rfl rfl 48 #[.int .i64 0, .int .i64 0, .string ⟨#[]⟩, .slice none 0 0] HXn.out insSize rfl (insOne _ _ _ _ _ _) ?_)
    | fail)
  clear HXn
  generalize (w1.alloc (.cells #[.int .i64 0, .int .i64 0, .string ⟨#[]⟩, .slice none 0 0] 48)).setRow w1.heap.size #[.int .i64 0, .int .i64 0, .string ⟨#[]⟩, .slice none 0 0] = w2 at *
  generalize w1.heap.size = g4 at *
  generalize hx0 : ws[0]'HL0.out = x0 at *
  have HX0 := Lib.hid hx0
  clear hx0
  go_wp2_with fail
  go_loopw [5] (fun vi wr => ∃ k : Nat, vi = .int .i64 k ∧ 1 ≤ k ∧ k ≤ 12 ∧ PIn w g4 gw cw ws ⟨opAt k x0.data.toList, 0, ⟨#[]⟩, []⟩ none 0 wr) (fun vi _ => 12 - (intOf vi).toNat)
  case atStart => exact ⟨1, rfl, by omega, by omega, by simpa [opAt] using HP2.out⟩
  case round =>
    obtain ⟨k, rfl, k1, k12, hp⟩ := hrel
    have HP := Lib.hid hp
    clear hp HP2
    rcases Nat.lt_or_ge k 12 with hlt | hge
    · have i1 : (k : Int) < 12 := by omega
      have i0 : (0 : Int) ≤ (k : Int) := by omega
      go_wp2_with fail
      refine (specWordsV _).mono ?_
      rintro e wa ⟨gx, hgx, rfl, hcs, hb⟩
      have HPa := Lib.hid (HP.out.kept hb)
      clear hcs hb HP
      go_upto_region 6 with fail
      refine wp_region_free' (by kernel_rfl) (fun _ W => Below wa.heap.size wa W) (fun W W' => Below W.heap.size W W') (SW k gw ws.length cw x0) (by kernel_rfl) (fun i k v W W' h _ hb => h.kept hb) ((Below.refl _ _).drew) ?_
      apply Exists.intro
      apply And.intro
      · intro f
        simp only [over, List.set]
        exact rfl
      refine ⟨?hops6, ?hend6⟩
      case hops6 =>
        refine EachOp.cons ?_ (EachOp.cons ?_ (EachOp.cons ?_ (EachOp.cons ?_ (EachOp.cons ?_ (EachOp.cons ?_ (EachOp.cons ?_ (EachOp.cons ?_ (EachOp.nil))))))))
        · intro ff kk ww hkk hI hd QQ' hQ
          try dsimp only
          go_big_wp2_with fail
          refine (specWordsV ww).mono ?_
          rintro e wb ⟨G, hG, rfl, hcs, hb⟩
          go_big_wp2_with fail
          refine hQ _ _ wb ?_ (hI.trans (hb.mono hI.size)) hb ⟨G, rfl, (by first | (have h0 := World.block_lt_of_cell? _ _ (hcs 1 (by omega) (by omega)); simpa using h0) | (exact World.block_lt_of_cell? _ _ (hcs 1 (by omega) (by omega)))), hcs k (by omega) (by omega)⟩
          first | rfl | (simp [upd]; done)
        · intro ff kk ww hkk hI hd QQ' hQ
          try dsimp only
          go_big_wp2_with fail
          refine hQ _ _ _ ?_ hI (Below.refl _ _) rfl
          first | rfl | (simp [upd]; done)
        · intro ff kk ww hkk hI hd QQ' hQ
          try dsimp only
          have c1' : ff 1 = _ := depsM_get hd (n := 1) (by decide)
          obtain ⟨G, cG, lG, yG⟩ : ∃ G : Nat, ff 0 = .slice (some ⟨G, 0, none⟩) 12 12 ∧ G < ww.heap.size ∧ ww.cell? ⟨G, k, none⟩ = some (.string ⟨(wordV (k : Int)).toArray⟩) := depsM_get hd (n := 0) (by decide)
          go_big_wp2_with fail
          refine hQ _ _ _ ?_ hI (Below.refl _ _) ⟨G, rfl, lG, yG⟩
          first | rfl | (simp [upd, c1', cG]; done)
        · intro ff kk ww hkk hI hd QQ' hQ
          try dsimp only
          obtain ⟨G, cG, lG, yG⟩ : ∃ G : Nat, ff 2 = .pointer (some ⟨G, k, none⟩) ∧ G < ww.heap.size ∧ ww.cell? ⟨G, k, none⟩ = some (.string ⟨(wordV (k : Int)).toArray⟩) := depsM_get hd (n := 2) (by decide)
          go_big_wp2_with fail
          refine hQ _ _ _ ?_ hI (Below.refl _ _) rfl
          first | rfl | (simp [upd, cG]; done)
        · intro ff kk ww hkk hI hd QQ' hQ
          try dsimp only
          go_big_wp2_with fail
          refine hQ _ _ _ ?_ hI (Below.refl _ _) rfl
          first | rfl | (simp [upd]; done)
        · intro ff kk ww hkk hI hd QQ' hQ
          try dsimp only
          have c4' : ff 4 = _ := depsM_get hd (n := 4) (by decide)
          have hwl : (0 : Int) < (ws.length : Int) := by have := HL0.out; omega
          go_big_wp2_with fail
          refine hQ _ _ _ ?_ hI (Below.refl _ _) rfl
          first | rfl | (simp [upd, c4']; done)
        · intro ff kk ww hkk hI hd QQ' hQ
          try dsimp only
          have c5' : ff 5 = _ := depsM_get hd (n := 5) (by decide)
          have yW : ww.cell? ⟨gw, 0, none⟩ = some (.string x0) := by
            rw [(HPa.out.kept hI).row.cellAt 0 (by have := HL0.out; omega)]
            rw [← HX0.out]; simp [HL0.out]
          go_big_wp2_with fail
          refine hQ _ _ _ ?_ hI (Below.refl _ _) rfl
          first | rfl | (simp [upd, c5']; done)
        · intro ff kk ww hkk hI hd QQ' hQ
          try dsimp only
          have c3' : ff 3 = _ := depsM_get hd (n := 3) (by decide)
          have c6' : ff 6 = _ := depsM_get hd (n := 6) (by decide)
          go_big_wp2_with fail
          refine hQ _ _ _ ?_ hI (Below.refl _ _) rfl
          first | rfl | (simp [upd, c3', c6']; done)
      case hend6 =>
      intro ff kk w3 d3 hS
      try dsimp only
      have cz : ff 7 = _ := hS 7 (by decide)
      rw [cz]
      have HP3 := Lib.hid (HPa.out.kept d3)
      clear cz hS d3 HPa
      have hz := bytes_eq (l := wordV (k : Int)) (u := x0)
      by_cases hc : wordV (k : Int) = x0.data.toList
      · rw [decide_eq_true hc] at hz
        rw [hz]
        have HO : Hid (opAt (k + 1) x0.data.toList = (k : Int)) := Lib.hid (by rw [opAt, if_pos ⟨k1, hc⟩])
        have f0 := HP3.out.fz
        have c0 := HP3.out.cell.1
        have HP4 := Lib.hid (HP3.out.setAt 0 (.int .i64 k) ⟨(k : Int), 0, ⟨#[]⟩, []⟩ rfl (HP3.out.cell.set0 (k : Int)))
        dsimp only at c0
        clear hc hz HP3
        go_wp2
        go_roundw
        case rel => exact ⟨k + 1, by go_num, by omega, by omega, by rw [HO.out]; exact HP4.out⟩
        case measure => simp [intOf]; omega
      · rw [decide_eq_false hc] at hz
        rw [hz]
        have HO : Hid (opAt (k + 1) x0.data.toList = opAt k x0.data.toList) := Lib.hid (by rw [opAt, if_neg (fun q => hc q.2)])
        clear hc hz
        go_wp2
        go_roundw
        case rel => exact ⟨k + 1, by go_num, by omega, by omega, by rw [HO.out]; exact HP3.out⟩
        case measure => simp [intOf]; omega
    · obtain rfl : k = 12 := by omega
      have i1 : ¬ (12 : Int) < 12 := by omega
      go_wp2_with fail
      refine (specWordsV _).mono ?_
      rintro e wa ⟨gx, hgx, rfl, hcs, hb⟩
      have HPa := Lib.hid (HP.out.kept hb)
      have hoe : Hid (opAt 12 (ws[0]'HL0.out).data.toList = opAt 12 x0.data.toList) := Lib.hid (by rw [HX0.out])
      clear hcs hb HP
      generalize opAt 12 x0.data.toList = o at *
      go_wp2_with fail
      go_loopw [6] (fun vi wr => ∃ (k : Nat) (d : Pl) (a : Option Addr) (c : Nat), vi = .int .i64 k ∧ 1 ≤ k ∧ k ≤ 7 ∧ k ≤ ws.length ∧ PIn w g4 gw cw ws d a c wr ∧ Hid (d.op = o) ∧ Hid (d = accM o ws k) ∧ d.nm.size ≤ s.size ∧ d.ms.length ≤ k) (fun vi _ => 7 - (intOf vi).toNat)
      case atStart => exact ⟨1, _, none, 0, rfl, by omega, by omega, hl1, HPa.out, Lib.hid rfl, Lib.hid (accM_one o ws).symm, Nat.zero_le _, Nat.zero_le _⟩
      case round =>
        obtain ⟨k, d, a, c, rfl, k1, k7, kw, hp, hop, hacc, hnm, hml⟩ := hrel
        have HP := Lib.hid hp
        clear hp HPa
        obtain ⟨o', n, nm, ms⟩ := d
        dsimp only at hnm hml
        have HAC : Hid ((⟨o', n, nm, ms⟩ : Pl) = accM o ws k) := hacc
        obtain rfl : o' = o := hop.out
        clear hop hacc
        by_cases hk : k < ws.length ∧ k ≤ 6
        · obtain ⟨hk1, hk2⟩ := hk
          have g1 : decide ((k : Int) < (ws.length : Int)) = true := decide_eq_true (by omega)
          have g1n : decide (k < ws.length) = true := decide_eq_true hk1
          have g2 : decide ((k : Int) ≤ 6) = true := decide_eq_true (by omega)
          have g2n : decide (k ≤ 6) = true := decide_eq_true hk2
          have i1 : (k : Int) < (ws.length : Int) := by omega
          have i0' : (0 : Int) ≤ (k : Int) := by omega
          have y0 : wr.cell? ⟨gw, k, none⟩ = some (.string (ws[k]'hk1)) := by
            rw [HP.out.row.cellAt k (by omega)]; simp [hk1]
          have hxz : (ws[k]'hk1).size ≤ s.size := HWZ.out _ (List.getElem_mem hk1)
          have HSU := Lib.hid ((accM_succ o' ws k1 hk1).trans (by rw [← HAC.out]))
          generalize ws[k]'hk1 = x at *
          have HY := Lib.hid y0
          obtain ⟨c0, c1, c2, c3⟩ := HP.out.cell
          obtain ⟨f1, f2, f3⟩ := HP.out.opn
          have f0 := HP.out.fz
          dsimp only at c0 c1 c2 c3
          have e0 : IntKind.i64.wrap ((k : Int) + 1) = (k : Int) + 1 := IntWalk.i64_in _ (by omega)
          by_cases e1 : o' = 1
          · subst e1
            have KN := Lib.hid (intC x wr (by unfold maxLen; omega))
            go_wp2_with fail
            refine KN.out.mono ?_
            rintro e wi ⟨n', bo, rfl, hn', nlo, nhi, rfl⟩
            have HN : Hid (n' = intV x.data.toList) := hn'.out
            have HP4 := Lib.hid (HP.out.setAt 1 (.int .i64 n') ⟨1, n', nm, ms⟩ rfl (HP.out.cell.set1 n'))
            have HA4 : Hid ((⟨1, n', nm, ms⟩ : Pl) = accM 1 ws (k + 1)) := Lib.hid (by rw [HSU.out]; unfold argM; rw [if_pos (by dsimp only; decide), HN.out])
            clear hn' KN HP
            go_wp2
            go_roundw
            case rel => exact ⟨k + 1, ⟨1, n', nm, ms⟩, a, c, by go_num, by omega, by omega, by omega, HP4.out, Lib.hid rfl, HA4, hnm, by dsimp only; omega⟩
            case measure => simp [intOf]; omega
          have z1 : (o' == 1) = false := by simpa using e1
          by_cases e9 : o' = 9
          · subst e9
            have KN := Lib.hid (intC x wr (by unfold maxLen; omega))
            go_wp2_with fail
            refine KN.out.mono ?_
            rintro e wi ⟨n', bo, rfl, hn', nlo, nhi, rfl⟩
            have HN : Hid (n' = intV x.data.toList) := hn'.out
            have HP4 := Lib.hid (HP.out.setAt 1 (.int .i64 n') ⟨9, n', nm, ms⟩ rfl (HP.out.cell.set1 n'))
            have HA4 : Hid ((⟨9, n', nm, ms⟩ : Pl) = accM 9 ws (k + 1)) := Lib.hid (by rw [HSU.out]; unfold argM; rw [if_pos (by dsimp only; decide), HN.out])
            clear hn' KN HP
            go_wp2
            go_roundw
            case rel => exact ⟨k + 1, ⟨9, n', nm, ms⟩, a, c, by go_num, by omega, by omega, by omega, HP4.out, Lib.hid rfl, HA4, hnm, by dsimp only; omega⟩
            case measure => simp [intOf]; omega
          have z9 : (o' == 9) = false := by simpa using e9
          by_cases e11 : o' = 11
          · subst e11
            have KN := Lib.hid (intC x wr (by unfold maxLen; omega))
            go_wp2_with fail
            refine KN.out.mono ?_
            rintro e wi ⟨n', bo, rfl, hn', nlo, nhi, rfl⟩
            have HN : Hid (n' = intV x.data.toList) := hn'.out
            have HP4 := Lib.hid (HP.out.setAt 1 (.int .i64 n') ⟨11, n', nm, ms⟩ rfl (HP.out.cell.set1 n'))
            have HA4 : Hid ((⟨11, n', nm, ms⟩ : Pl) = accM 11 ws (k + 1)) := Lib.hid (by rw [HSU.out]; unfold argM; rw [if_pos (by dsimp only; decide), HN.out])
            clear hn' KN HP
            go_wp2
            go_roundw
            case rel => exact ⟨k + 1, ⟨11, n', nm, ms⟩, a, c, by go_num, by omega, by omega, by omega, HP4.out, Lib.hid rfl, HA4, hnm, by dsimp only; omega⟩
            case measure => simp [intOf]; omega
          have z11 : (o' == 11) = false := by simpa using e11
          by_cases e2 : o' = 2
          · subst e2
            have HP4 := Lib.hid (HP.out.setAt 2 (.string x) ⟨2, n, x, ms⟩ rfl (HP.out.cell.set2 x))
            have HA4 : Hid ((⟨2, n, x, ms⟩ : Pl) = accM 2 ws (k + 1)) := Lib.hid (by rw [HSU.out]; unfold argM; rw [if_neg (by dsimp only; decide), if_pos rfl])
            clear HP
            go_wp2
            go_roundw
            case rel => exact ⟨k + 1, ⟨2, n, x, ms⟩, a, c, by go_num, by omega, by omega, by omega, HP4.out, Lib.hid rfl, HA4, hxz, by dsimp only; omega⟩
            case measure => simp [intOf]; omega
          have z2 : (o' == 2) = false := by simpa using e2
          by_cases e10 : o' = 10
          · subst e10
            have KN := Lib.hid (cut3C 58 58 rfl x wr (by omega))
            go_wp2_with fail
            refine KN.out.mono ?_
            rintro e w3 ⟨mw, gm, cm, hmw, hm1, hm2, hmz, rfl, hmown, hb3⟩
            have HMW : Hid (mw.map (·.data.toList) = splitB 58 x.data.toList) := hmw
            have HML : Hid (0 < mw.length) := by show _ < _; omega
            have HMZ : Hid (∀ y ∈ mw, y.size ≤ x.size) := hmz
            have HP3 := Lib.hid (HP.out.kept hb3)
            have HMO := Lib.hid hmown
            have hy0 : (mw[0]'HML.out).size ≤ 1600 := by have := HMZ.out _ (List.getElem_mem HML.out); omega
            have hy1 : (mw[mw.length - 1]'(by have := HML.out; omega)).size ≤ 1600 := by have := HMZ.out _ (List.getElem_mem (show mw.length - 1 < mw.length by have := HML.out; omega)); omega
            have HMM : Hid (markM x.data.toList = (numV (mw[0]'HML.out).data.toList, numV (mw[mw.length - 1]'(by have := HML.out; omega)).data.toList)) := by
              refine Lib.hid ?_
              unfold markM
              rw [← HMW.out]
              have hne : mw ≠ [] := by intro q; have := HML.out; rw [q] at this; simp at this
              rw [List.headD_eq_head?_getD, List.getLastD_eq_getLast?, List.getLast?_map, List.head?_map]
              rw [List.head?_eq_getElem?, List.getLast?_eq_getElem?, List.getElem?_eq_getElem HML.out, List.getElem?_eq_getElem (show mw.length - 1 < mw.length by have := HML.out; omega)]
              rfl
            generalize hq0 : mw[0]'HML.out = y0 at *
            generalize hq1 : mw[mw.length - 1]'(by have := HML.out; omega) = y1 at *
            have HM0 := Lib.hid hq0
            have HM1 := Lib.hid hq1
            clear hmw hmz hmown hb3 HP KN HY hq0 hq1
            clear c0 c1 c2 c3 f0 f1 f2 f3
            go_upto_region 21 with fail
            refine wp_region_invK (by kernel_rfl) (fun k L f W => TA 15 (fun _ W => PIn w g4 gw cw ws ⟨10, n, nm, ms⟩ a c W ∧ W.ownsRow wr.heap.size 9 1 (.slice (some ⟨gm, 0, none⟩) mw.length cm) mw.length (mw.map Value.string)) (SM g4 gm mw.length cm ms.length c a y0 y1) (.pointer (some ⟨g4, 3, none⟩)) (fun v W => ∃ g5 cp, v = .slice (some ⟨g5, 0, none⟩) (ms.length + 1) cp ∧ W.cell? ⟨g4, 3, none⟩ = some (.slice a ms.length c) ∧ W.frozen? ⟨g4, 3, none⟩ = false ∧ PIn w g4 gw cw ws ⟨10, n, nm, ms ++ [(numV y0.data.toList, numV y1.data.toList)]⟩ (some ⟨g5, 0, none⟩) cp (W.setCell ⟨g4, 3, none⟩ (.slice (some ⟨g5, 0, none⟩) (ms.length + 1) cp))) (fun W => ∃ g5 cp, PIn w g4 gw cw ws ⟨10, n, nm, ms ++ [(numV y0.data.toList, numV y1.data.toList)]⟩ (some ⟨g5, 0, none⟩) cp W) k L f W) (by kernel_rfl) (TA.start ⟨HP3.out.kept ((Below.refl _ _).drew), HMO.out.kept (row := none) (below_grownM ((Below.refl _ _).drew)) (Classical.em _)⟩) ?_
            apply Exists.intro
            apply And.intro
            · intro f
              simp only [over, List.set]
              exact rfl
            refine ⟨?hops, ?hend⟩
            case hops =>
              refine EachOp.cons ?_ (EachOp.cons ?_ (EachOp.cons ?_ (EachOp.cons ?_ (EachOp.cons ?_ (EachOp.cons ?_ (EachOp.cons ?_ (EachOp.cons ?_ (EachOp.cons ?_ (EachOp.cons ?_ (EachOp.cons ?_ (EachOp.cons ?_ (EachOp.cons ?_ (EachOp.cons ?_ (EachOp.cons ?_ (EachOp.cons ?_ (EachOp.cons ?_ (EachOp.cons ?_ (EachOp.nil))))))))))))))))))
              · intro L ff kk ww hkk hJ hcl hLi hwt QQ' hQ
                try dsimp only
                have n15 : L 15 = false := by
                  cases hx : L 15 with
                  | false => rfl
                  | true =>
                    have h15x := hx
                    have h1x : L 1 = true := hcl 15 _ rfl h15x 1 (by decide)
                    have h0x : L 0 = true := hcl 1 _ rfl h1x 0 (by decide)
                    have h2 : L 0 = false := hLi
                    rw [h0x] at h2; cases h2
                have n17 : L 17 = false := by
                  cases hx : L 17 with
                  | false => rfl
                  | true =>
                    have h17x := hx
                    have h15x : L 15 = true := hcl 17 _ rfl h17x 15 (by decide)
                    have h1x : L 1 = true := hcl 15 _ rfl h15x 1 (by decide)
                    have h0x : L 0 = true := hcl 1 _ rfl h1x 0 (by decide)
                    have h2 : L 0 = false := hLi
                    rw [h0x] at h2; cases h2
                have hI := hJ.inv n15
                go_big_wp2_with fail
                refine hQ _ _ _ ?_ (hJ.pre_op (i := 0) (by decide) n15 n17 (hI) (fun j v h => h) (rfl))
                first | rfl | (simp [upd]; done)
              · intro L ff kk ww hkk hJ hcl hLi hwt QQ' hQ
                try dsimp only
                have n15 : L 15 = false := by
                  cases hx : L 15 with
                  | false => rfl
                  | true =>
                    have h15x := hx
                    have h1x : L 1 = true := hcl 15 _ rfl h15x 1 (by decide)
                    have h2 : L 1 = false := hLi
                    rw [h1x] at h2; cases h2
                have n17 : L 17 = false := by
                  cases hx : L 17 with
                  | false => rfl
                  | true =>
                    have h17x := hx
                    have h15x : L 15 = true := hcl 17 _ rfl h17x 15 (by decide)
                    have h1x : L 1 = true := hcl 15 _ rfl h15x 1 (by decide)
                    have h2 : L 1 = false := hLi
                    rw [h1x] at h2; cases h2
                have hI := hJ.inv n15
                have c0' : ff 0 = _ := hJ.pre 0 (by decide) (hwt 0 (by decide)) n15
                have yL : ww.cell? ⟨g4, 3, none⟩ = some (.slice a ms.length c) := hI.1.cell.2.2.2
                go_big_wp2_with fail
                refine hQ _ _ _ ?_ (hJ.pre_op (i := 1) (by decide) n15 n17 (hI) (fun j v h => h) (rfl))
                first | rfl | (simp [upd, c0']; done)
              · intro L ff kk ww hkk hJ hcl hLi hwt QQ' hQ
                try dsimp only
                have n15 : L 15 = false := by
                  cases hx : L 15 with
                  | false => rfl
                  | true =>
                    have h15x := hx
                    have h14x : L 14 = true := hcl 15 _ rfl h15x 14 (by decide)
                    have h13x : L 13 = true := hcl 14 _ rfl h14x 13 (by decide)
                    have h5x : L 5 = true := hcl 13 _ rfl h13x 5 (by decide)
                    have h4x : L 4 = true := hcl 5 _ rfl h5x 4 (by decide)
                    have h3x : L 3 = true := hcl 4 _ rfl h4x 3 (by decide)
                    have h2x : L 2 = true := hcl 3 _ rfl h3x 2 (by decide)
                    have h2 : L 2 = false := hLi
                    rw [h2x] at h2; cases h2
                have n17 : L 17 = false := by
                  cases hx : L 17 with
                  | false => rfl
                  | true =>
                    have h17x := hx
                    have h15x : L 15 = true := hcl 17 _ rfl h17x 15 (by decide)
                    have h14x : L 14 = true := hcl 15 _ rfl h15x 14 (by decide)
                    have h13x : L 13 = true := hcl 14 _ rfl h14x 13 (by decide)
                    have h5x : L 5 = true := hcl 13 _ rfl h13x 5 (by decide)
                    have h4x : L 4 = true := hcl 5 _ rfl h5x 4 (by decide)
                    have h3x : L 3 = true := hcl 4 _ rfl h4x 3 (by decide)
                    have h2x : L 2 = true := hcl 3 _ rfl h3x 2 (by decide)
                    have h2 : L 2 = false := hLi
                    rw [h2x] at h2; cases h2
                have hI := hJ.inv n15
                go_big_wp2_with fail
                refine hQ _ _ _ ?_ (hJ.pre_op (i := 2) (by decide) n15 n17 (hI) (fun j v h => h) (rfl))
                first | rfl | (simp [upd]; done)
              · intro L ff kk ww hkk hJ hcl hLi hwt QQ' hQ
                try dsimp only
                have n15 : L 15 = false := by
                  cases hx : L 15 with
                  | false => rfl
                  | true =>
                    have h15x := hx
                    have h14x : L 14 = true := hcl 15 _ rfl h15x 14 (by decide)
                    have h13x : L 13 = true := hcl 14 _ rfl h14x 13 (by decide)
                    have h5x : L 5 = true := hcl 13 _ rfl h13x 5 (by decide)
                    have h4x : L 4 = true := hcl 5 _ rfl h5x 4 (by decide)
                    have h3x : L 3 = true := hcl 4 _ rfl h4x 3 (by decide)
                    have h2 : L 3 = false := hLi
                    rw [h3x] at h2; cases h2
                have n17 : L 17 = false := by
                  cases hx : L 17 with
                  | false => rfl
                  | true =>
                    have h17x := hx
                    have h15x : L 15 = true := hcl 17 _ rfl h17x 15 (by decide)
                    have h14x : L 14 = true := hcl 15 _ rfl h15x 14 (by decide)
                    have h13x : L 13 = true := hcl 14 _ rfl h14x 13 (by decide)
                    have h5x : L 5 = true := hcl 13 _ rfl h13x 5 (by decide)
                    have h4x : L 4 = true := hcl 5 _ rfl h5x 4 (by decide)
                    have h3x : L 3 = true := hcl 4 _ rfl h4x 3 (by decide)
                    have h2 : L 3 = false := hLi
                    rw [h3x] at h2; cases h2
                have hI := hJ.inv n15
                have c2' : ff 2 = _ := hJ.pre 2 (by decide) (hwt 2 (by decide)) n15
                have j1 : (0 : Int) < (mw.length : Int) := by omega
                go_big_wp2_with fail
                refine hQ _ _ _ ?_ (hJ.pre_op (i := 3) (by decide) n15 n17 (hI) (fun j v h => h) (rfl))
                first | rfl | (simp [upd, c2']; done)
              · intro L ff kk ww hkk hJ hcl hLi hwt QQ' hQ
                try dsimp only
                have n15 : L 15 = false := by
                  cases hx : L 15 with
                  | false => rfl
                  | true =>
                    have h15x := hx
                    have h14x : L 14 = true := hcl 15 _ rfl h15x 14 (by decide)
                    have h13x : L 13 = true := hcl 14 _ rfl h14x 13 (by decide)
                    have h5x : L 5 = true := hcl 13 _ rfl h13x 5 (by decide)
                    have h4x : L 4 = true := hcl 5 _ rfl h5x 4 (by decide)
                    have h2 : L 4 = false := hLi
                    rw [h4x] at h2; cases h2
                have n17 : L 17 = false := by
                  cases hx : L 17 with
                  | false => rfl
                  | true =>
                    have h17x := hx
                    have h15x : L 15 = true := hcl 17 _ rfl h17x 15 (by decide)
                    have h14x : L 14 = true := hcl 15 _ rfl h15x 14 (by decide)
                    have h13x : L 13 = true := hcl 14 _ rfl h14x 13 (by decide)
                    have h5x : L 5 = true := hcl 13 _ rfl h13x 5 (by decide)
                    have h4x : L 4 = true := hcl 5 _ rfl h5x 4 (by decide)
                    have h2 : L 4 = false := hLi
                    rw [h4x] at h2; cases h2
                have hI := hJ.inv n15
                have c3' : ff 3 = _ := hJ.pre 3 (by decide) (hwt 3 (by decide)) n15
                have yM : ww.cell? ⟨gm, 0, none⟩ = some (.string y0) := by
                  rw [hI.2.cellAt 0 (by omega)]
                  rw [← HM0.out]; simp [HML.out]
                go_big_wp2_with fail
                refine hQ _ _ _ ?_ (hJ.pre_op (i := 4) (by decide) n15 n17 (hI) (fun j v h => h) (rfl))
                first | rfl | (simp [upd, c3']; done)
              · intro L ff kk ww hkk hJ hcl hLi hwt QQ' hQ
                try dsimp only
                have n15 : L 15 = false := by
                  cases hx : L 15 with
                  | false => rfl
                  | true =>
                    have h15x := hx
                    have h14x : L 14 = true := hcl 15 _ rfl h15x 14 (by decide)
                    have h13x : L 13 = true := hcl 14 _ rfl h14x 13 (by decide)
                    have h5x : L 5 = true := hcl 13 _ rfl h13x 5 (by decide)
                    have h2 : L 5 = false := hLi
                    rw [h5x] at h2; cases h2
                have n17 : L 17 = false := by
                  cases hx : L 17 with
                  | false => rfl
                  | true =>
                    have h17x := hx
                    have h15x : L 15 = true := hcl 17 _ rfl h17x 15 (by decide)
                    have h14x : L 14 = true := hcl 15 _ rfl h15x 14 (by decide)
                    have h13x : L 13 = true := hcl 14 _ rfl h14x 13 (by decide)
                    have h5x : L 5 = true := hcl 13 _ rfl h13x 5 (by decide)
                    have h2 : L 5 = false := hLi
                    rw [h5x] at h2; cases h2
                have hI := hJ.inv n15
                have c4' : ff 4 = _ := hJ.pre 4 (by decide) (hwt 4 (by decide)) n15
                go_big_wp2_with fail
                refine (numAt y0 ww (by unfold maxLen; omega)).mono ?_
                rintro e wi ⟨n', rfl, hn', -, -, rfl⟩
                have hn2 := hn'.out
                clear hn'
                subst hn2
                go_big_wp2_with fail
                refine hQ _ _ ww ?_ (hJ.pre_op (i := 5) (by decide) n15 n17 (hI) (fun j v h => h) (rfl))
                first | rfl | (simp [upd, c4']; done)
              · intro L ff kk ww hkk hJ hcl hLi hwt QQ' hQ
                try dsimp only
                have n15 : L 15 = false := by
                  cases hx : L 15 with
                  | false => rfl
                  | true =>
                    have h15x := hx
                    have h14x : L 14 = true := hcl 15 _ rfl h15x 14 (by decide)
                    have h13x : L 13 = true := hcl 14 _ rfl h14x 13 (by decide)
                    have h12x : L 12 = true := hcl 13 _ rfl h13x 12 (by decide)
                    have h11x : L 11 = true := hcl 12 _ rfl h12x 11 (by decide)
                    have h10x : L 10 = true := hcl 11 _ rfl h11x 10 (by decide)
                    have h6x : L 6 = true := hcl 10 _ rfl h10x 6 (by decide)
                    have h2 : L 6 = false := hLi
                    rw [h6x] at h2; cases h2
                have n17 : L 17 = false := by
                  cases hx : L 17 with
                  | false => rfl
                  | true =>
                    have h17x := hx
                    have h15x : L 15 = true := hcl 17 _ rfl h17x 15 (by decide)
                    have h14x : L 14 = true := hcl 15 _ rfl h15x 14 (by decide)
                    have h13x : L 13 = true := hcl 14 _ rfl h14x 13 (by decide)
                    have h12x : L 12 = true := hcl 13 _ rfl h13x 12 (by decide)
                    have h11x : L 11 = true := hcl 12 _ rfl h12x 11 (by decide)
                    have h10x : L 10 = true := hcl 11 _ rfl h11x 10 (by decide)
                    have h6x : L 6 = true := hcl 10 _ rfl h10x 6 (by decide)
                    have h2 : L 6 = false := hLi
                    rw [h6x] at h2; cases h2
                have hI := hJ.inv n15
                go_big_wp2_with fail
                refine hQ _ _ _ ?_ (hJ.pre_op (i := 6) (by decide) n15 n17 (hI) (fun j v h => h) (rfl))
                first | rfl | (simp [upd]; done)
              · intro L ff kk ww hkk hJ hcl hLi hwt QQ' hQ
                try dsimp only
                have n15 : L 15 = false := by
                  cases hx : L 15 with
                  | false => rfl
                  | true =>
                    have h15x := hx
                    have h14x : L 14 = true := hcl 15 _ rfl h15x 14 (by decide)
                    have h13x : L 13 = true := hcl 14 _ rfl h14x 13 (by decide)
                    have h12x : L 12 = true := hcl 13 _ rfl h13x 12 (by decide)
                    have h11x : L 11 = true := hcl 12 _ rfl h12x 11 (by decide)
                    have h10x : L 10 = true := hcl 11 _ rfl h11x 10 (by decide)
                    have h9x : L 9 = true := hcl 10 _ rfl h10x 9 (by decide)
                    have h8x : L 8 = true := hcl 9 _ rfl h9x 8 (by decide)
                    have h7x : L 7 = true := hcl 8 _ rfl h8x 7 (by decide)
                    have h2 : L 7 = false := hLi
                    rw [h7x] at h2; cases h2
                have n17 : L 17 = false := by
                  cases hx : L 17 with
                  | false => rfl
                  | true =>
                    have h17x := hx
                    have h15x : L 15 = true := hcl 17 _ rfl h17x 15 (by decide)
                    have h14x : L 14 = true := hcl 15 _ rfl h15x 14 (by decide)
                    have h13x : L 13 = true := hcl 14 _ rfl h14x 13 (by decide)
                    have h12x : L 12 = true := hcl 13 _ rfl h13x 12 (by decide)
                    have h11x : L 11 = true := hcl 12 _ rfl h12x 11 (by decide)
                    have h10x : L 10 = true := hcl 11 _ rfl h11x 10 (by decide)
                    have h9x : L 9 = true := hcl 10 _ rfl h10x 9 (by decide)
                    have h8x : L 8 = true := hcl 9 _ rfl h9x 8 (by decide)
                    have h7x : L 7 = true := hcl 8 _ rfl h8x 7 (by decide)
                    have h2 : L 7 = false := hLi
                    rw [h7x] at h2; cases h2
                have hI := hJ.inv n15
                go_big_wp2_with fail
                refine hQ _ _ _ ?_ (hJ.pre_op (i := 7) (by decide) n15 n17 (hI) (fun j v h => h) (rfl))
                first | rfl | (simp [upd]; done)
              · intro L ff kk ww hkk hJ hcl hLi hwt QQ' hQ
                try dsimp only
                have n15 : L 15 = false := by
                  cases hx : L 15 with
                  | false => rfl
                  | true =>
                    have h15x := hx
                    have h14x : L 14 = true := hcl 15 _ rfl h15x 14 (by decide)
                    have h13x : L 13 = true := hcl 14 _ rfl h14x 13 (by decide)
                    have h12x : L 12 = true := hcl 13 _ rfl h13x 12 (by decide)
                    have h11x : L 11 = true := hcl 12 _ rfl h12x 11 (by decide)
                    have h10x : L 10 = true := hcl 11 _ rfl h11x 10 (by decide)
                    have h9x : L 9 = true := hcl 10 _ rfl h10x 9 (by decide)
                    have h8x : L 8 = true := hcl 9 _ rfl h9x 8 (by decide)
                    have h2 : L 8 = false := hLi
                    rw [h8x] at h2; cases h2
                have n17 : L 17 = false := by
                  cases hx : L 17 with
                  | false => rfl
                  | true =>
                    have h17x := hx
                    have h15x : L 15 = true := hcl 17 _ rfl h17x 15 (by decide)
                    have h14x : L 14 = true := hcl 15 _ rfl h15x 14 (by decide)
                    have h13x : L 13 = true := hcl 14 _ rfl h14x 13 (by decide)
                    have h12x : L 12 = true := hcl 13 _ rfl h13x 12 (by decide)
                    have h11x : L 11 = true := hcl 12 _ rfl h12x 11 (by decide)
                    have h10x : L 10 = true := hcl 11 _ rfl h11x 10 (by decide)
                    have h9x : L 9 = true := hcl 10 _ rfl h10x 9 (by decide)
                    have h8x : L 8 = true := hcl 9 _ rfl h9x 8 (by decide)
                    have h2 : L 8 = false := hLi
                    rw [h8x] at h2; cases h2
                have hI := hJ.inv n15
                have c7' : ff 7 = _ := hJ.pre 7 (by decide) (hwt 7 (by decide)) n15
                go_big_wp2_with fail
                refine hQ _ _ _ ?_ (hJ.pre_op (i := 8) (by decide) n15 n17 (hI) (fun j v h => h) (rfl))
                first | rfl | (simp [upd, c7']; done)
              · intro L ff kk ww hkk hJ hcl hLi hwt QQ' hQ
                try dsimp only
                have n15 : L 15 = false := by
                  cases hx : L 15 with
                  | false => rfl
                  | true =>
                    have h15x := hx
                    have h14x : L 14 = true := hcl 15 _ rfl h15x 14 (by decide)
                    have h13x : L 13 = true := hcl 14 _ rfl h14x 13 (by decide)
                    have h12x : L 12 = true := hcl 13 _ rfl h13x 12 (by decide)
                    have h11x : L 11 = true := hcl 12 _ rfl h12x 11 (by decide)
                    have h10x : L 10 = true := hcl 11 _ rfl h11x 10 (by decide)
                    have h9x : L 9 = true := hcl 10 _ rfl h10x 9 (by decide)
                    have h2 : L 9 = false := hLi
                    rw [h9x] at h2; cases h2
                have n17 : L 17 = false := by
                  cases hx : L 17 with
                  | false => rfl
                  | true =>
                    have h17x := hx
                    have h15x : L 15 = true := hcl 17 _ rfl h17x 15 (by decide)
                    have h14x : L 14 = true := hcl 15 _ rfl h15x 14 (by decide)
                    have h13x : L 13 = true := hcl 14 _ rfl h14x 13 (by decide)
                    have h12x : L 12 = true := hcl 13 _ rfl h13x 12 (by decide)
                    have h11x : L 11 = true := hcl 12 _ rfl h12x 11 (by decide)
                    have h10x : L 10 = true := hcl 11 _ rfl h11x 10 (by decide)
                    have h9x : L 9 = true := hcl 10 _ rfl h10x 9 (by decide)
                    have h2 : L 9 = false := hLi
                    rw [h9x] at h2; cases h2
                have hI := hJ.inv n15
                have c8' : ff 8 = _ := hJ.pre 8 (by decide) (hwt 8 (by decide)) n15
                have ew : IntKind.i64.wrap ((mw.length : Int) - 1) = ((mw.length - 1 : Nat) : Int) := by rw [IntWalk.i64_in _ (by omega)]; omega
                go_big_wp2_with fail
                refine hQ _ _ _ ?_ (hJ.pre_op (i := 9) (by decide) n15 n17 (hI) (fun j v h => h) (rfl))
                first | rfl | (simp [upd, c8', ew]; done)
              · intro L ff kk ww hkk hJ hcl hLi hwt QQ' hQ
                try dsimp only
                have n15 : L 15 = false := by
                  cases hx : L 15 with
                  | false => rfl
                  | true =>
                    have h15x := hx
                    have h14x : L 14 = true := hcl 15 _ rfl h15x 14 (by decide)
                    have h13x : L 13 = true := hcl 14 _ rfl h14x 13 (by decide)
                    have h12x : L 12 = true := hcl 13 _ rfl h13x 12 (by decide)
                    have h11x : L 11 = true := hcl 12 _ rfl h12x 11 (by decide)
                    have h10x : L 10 = true := hcl 11 _ rfl h11x 10 (by decide)
                    have h2 : L 10 = false := hLi
                    rw [h10x] at h2; cases h2
                have n17 : L 17 = false := by
                  cases hx : L 17 with
                  | false => rfl
                  | true =>
                    have h17x := hx
                    have h15x : L 15 = true := hcl 17 _ rfl h17x 15 (by decide)
                    have h14x : L 14 = true := hcl 15 _ rfl h15x 14 (by decide)
                    have h13x : L 13 = true := hcl 14 _ rfl h14x 13 (by decide)
                    have h12x : L 12 = true := hcl 13 _ rfl h13x 12 (by decide)
                    have h11x : L 11 = true := hcl 12 _ rfl h12x 11 (by decide)
                    have h10x : L 10 = true := hcl 11 _ rfl h11x 10 (by decide)
                    have h2 : L 10 = false := hLi
                    rw [h10x] at h2; cases h2
                have hI := hJ.inv n15
                have c6' : ff 6 = _ := hJ.pre 6 (by decide) (hwt 6 (by decide)) n15
                have c9' : ff 9 = _ := hJ.pre 9 (by decide) (hwt 9 (by decide)) n15
                have j1 : ((mw.length - 1 : Nat) : Int) < (mw.length : Int) := by omega
                have j0 : (0 : Int) ≤ ((mw.length - 1 : Nat) : Int) := by omega
                go_big_wp2_with fail
                refine hQ _ _ _ ?_ (hJ.pre_op (i := 10) (by decide) n15 n17 (hI) (fun j v h => h) (rfl))
                first | rfl | (simp [upd, c6', c9']; done)
              · intro L ff kk ww hkk hJ hcl hLi hwt QQ' hQ
                try dsimp only
                have n15 : L 15 = false := by
                  cases hx : L 15 with
                  | false => rfl
                  | true =>
                    have h15x := hx
                    have h14x : L 14 = true := hcl 15 _ rfl h15x 14 (by decide)
                    have h13x : L 13 = true := hcl 14 _ rfl h14x 13 (by decide)
                    have h12x : L 12 = true := hcl 13 _ rfl h13x 12 (by decide)
                    have h11x : L 11 = true := hcl 12 _ rfl h12x 11 (by decide)
                    have h2 : L 11 = false := hLi
                    rw [h11x] at h2; cases h2
                have n17 : L 17 = false := by
                  cases hx : L 17 with
                  | false => rfl
                  | true =>
                    have h17x := hx
                    have h15x : L 15 = true := hcl 17 _ rfl h17x 15 (by decide)
                    have h14x : L 14 = true := hcl 15 _ rfl h15x 14 (by decide)
                    have h13x : L 13 = true := hcl 14 _ rfl h14x 13 (by decide)
                    have h12x : L 12 = true := hcl 13 _ rfl h13x 12 (by decide)
                    have h11x : L 11 = true := hcl 12 _ rfl h12x 11 (by decide)
                    have h2 : L 11 = false := hLi
                    rw [h11x] at h2; cases h2
                have hI := hJ.inv n15
                have c10' : ff 10 = _ := hJ.pre 10 (by decide) (hwt 10 (by decide)) n15
                have yM : ww.cell? ⟨gm, mw.length - 1, none⟩ = some (.string y1) := by
                  rw [hI.2.cellAt (mw.length - 1) (by omega)]
                  have hlt : mw.length - 1 < mw.length := by omega
                  rw [← HM1.out]; simp [hlt]
                go_big_wp2_with fail
                refine hQ _ _ _ ?_ (hJ.pre_op (i := 11) (by decide) n15 n17 (hI) (fun j v h => h) (rfl))
                first | rfl | (simp [upd, c10']; done)
              · intro L ff kk ww hkk hJ hcl hLi hwt QQ' hQ
                try dsimp only
                have n15 : L 15 = false := by
                  cases hx : L 15 with
                  | false => rfl
                  | true =>
                    have h15x := hx
                    have h14x : L 14 = true := hcl 15 _ rfl h15x 14 (by decide)
                    have h13x : L 13 = true := hcl 14 _ rfl h14x 13 (by decide)
                    have h12x : L 12 = true := hcl 13 _ rfl h13x 12 (by decide)
                    have h2 : L 12 = false := hLi
                    rw [h12x] at h2; cases h2
                have n17 : L 17 = false := by
                  cases hx : L 17 with
                  | false => rfl
                  | true =>
                    have h17x := hx
                    have h15x : L 15 = true := hcl 17 _ rfl h17x 15 (by decide)
                    have h14x : L 14 = true := hcl 15 _ rfl h15x 14 (by decide)
                    have h13x : L 13 = true := hcl 14 _ rfl h14x 13 (by decide)
                    have h12x : L 12 = true := hcl 13 _ rfl h13x 12 (by decide)
                    have h2 : L 12 = false := hLi
                    rw [h12x] at h2; cases h2
                have hI := hJ.inv n15
                have c11' : ff 11 = _ := hJ.pre 11 (by decide) (hwt 11 (by decide)) n15
                go_big_wp2_with fail
                refine (numAt y1 ww (by unfold maxLen; omega)).mono ?_
                rintro e wi ⟨n', rfl, hn', -, -, rfl⟩
                have hn2 := hn'.out
                clear hn'
                subst hn2
                go_big_wp2_with fail
                refine hQ _ _ ww ?_ (hJ.pre_op (i := 12) (by decide) n15 n17 (hI) (fun j v h => h) (rfl))
                first | rfl | (simp [upd, c11']; done)
              · intro L ff kk ww hkk hJ hcl hLi hwt QQ' hQ
                try dsimp only
                have n15 : L 15 = false := by
                  cases hx : L 15 with
                  | false => rfl
                  | true =>
                    have h15x := hx
                    have h14x : L 14 = true := hcl 15 _ rfl h15x 14 (by decide)
                    have h13x : L 13 = true := hcl 14 _ rfl h14x 13 (by decide)
                    have h2 : L 13 = false := hLi
                    rw [h13x] at h2; cases h2
                have n17 : L 17 = false := by
                  cases hx : L 17 with
                  | false => rfl
                  | true =>
                    have h17x := hx
                    have h15x : L 15 = true := hcl 17 _ rfl h17x 15 (by decide)
                    have h14x : L 14 = true := hcl 15 _ rfl h15x 14 (by decide)
                    have h13x : L 13 = true := hcl 14 _ rfl h14x 13 (by decide)
                    have h2 : L 13 = false := hLi
                    rw [h13x] at h2; cases h2
                have hI := hJ.inv n15
                have c5' : ff 5 = _ := hJ.pre 5 (by decide) (hwt 5 (by decide)) n15
                have c12' : ff 12 = _ := hJ.pre 12 (by decide) (hwt 12 (by decide)) n15
                go_big_wp2_with fail
                refine hQ _ _ _ ?_ (hJ.pre_op (i := 13) (by decide) n15 n17 (hI) (fun j v h => h) (rfl))
                first | rfl | (simp [upd, c5', c12']; done)
              · intro L ff kk ww hkk hJ hcl hLi hwt QQ' hQ
                try dsimp only
                have n15 : L 15 = false := by
                  cases hx : L 15 with
                  | false => rfl
                  | true =>
                    have h15x := hx
                    have h14x : L 14 = true := hcl 15 _ rfl h15x 14 (by decide)
                    have h2 : L 14 = false := hLi
                    rw [h14x] at h2; cases h2
                have n17 : L 17 = false := by
                  cases hx : L 17 with
                  | false => rfl
                  | true =>
                    have h17x := hx
                    have h15x : L 15 = true := hcl 17 _ rfl h17x 15 (by decide)
                    have h14x : L 14 = true := hcl 15 _ rfl h15x 14 (by decide)
                    have h2 : L 14 = false := hLi
                    rw [h14x] at h2; cases h2
                have hI := hJ.inv n15
                have c13' : ff 13 = _ := hJ.pre 13 (by decide) (hwt 13 (by decide)) n15
                have hal : Below ww.heap.size ww (ww.alloc (.cells #[.int .i64 (numV y0.data.toList), .int .i64 (numV y1.data.toList)] 93)) := (Below.refl _ _).alloc (Nat.le_refl _) _
                go_big_wp2_with fail
                refine hQ _ _ _ ?_ (hJ.pre_op (i := 14) (by decide) n15 n17 (⟨hI.1.kept hal, hI.2.kept (row := none) (below_grownM hal) (Classical.em _)⟩) (fun j v h => h.kept hal) (⟨ww.heap.size, rfl, heap_alloc_new ww _⟩))
                first | rfl | (simp [upd, c13']; done)
              · intro L ff kk ww hkk hJ hcl hLi hwt QQ' hQ
                try dsimp only
                have n15 : L 15 = false := hLi
                have n17 : L 17 = false := by
                  cases hx : L 17 with
                  | false => rfl
                  | true =>
                    have h17x := hx
                    have h15x : L 15 = true := hcl 17 _ rfl h17x 15 (by decide)
                    have h2 : L 15 = false := hLi
                    rw [h15x] at h2; cases h2
                have hI := hJ.inv n15
                have c1' : ff 1 = _ := hJ.pre 1 (by decide) (hwt 1 (by decide)) n15
                obtain ⟨gx, cl, hz5⟩ := hJ.pre 14 (by decide) (hwt 14 (by decide)) n15
                have cl' : ff 14 = _ := cl
                have hlx := hI.1.lt
                have hO : ww.ownsRow (w.heap.size + 1) 93 2 (.slice a ms.length c) ms.length (rowsM ms) := hI.1.own
                refine wpList_append_lies ww rfl _ _ 35 rfl (w.heap.size + 1) 93 im0 (.agg #[.int .i64 0, .int .i64 0]) 2 16 Tryz.underlying35 hmi hmz0 hmz1 hmz2 rfl (by decide) (.slice a ms.length c) ms.length (rowsM ms) c1' hO ⟨gx, 0, none⟩ 1 1 [.int .i64 (numV y0.data.toList), .int .i64 (numV y1.data.toList)] cl' rfl (World.news_of_block hz5) (by intro u hu; simp at hu; rcases hu with rfl | rfl <;> rfl) (by decide) (by unfold maxLen; omega) (by omega) (by omega) ww.heap.size rfl ?_
                intro g2 cp2 wz ho hg hat hlt
                obtain ⟨q1, q2, q3⟩ := hI.1.app (m := (numV y0.data.toList, numV y1.data.toList)) ho hg (by first | exact hat | exact hat.imp Eq.symm id | (rcases hat with h | h; exact Or.inl h.symm; exact Or.inr h))
                simp only [Act.put, List.setIfInBounds_toArray, List.set_cons_succ, List.set_cons_zero]
                exact hQ _ _ wz rfl (hJ.app_op n17 ⟨g2, cp2, rfl, q1, q2, q3⟩)
              · intro L ff kk ww hkk hJ hcl hLi hwt QQ' hQ
                try dsimp only
                have n17 : L 17 = false := by
                  cases hx : L 17 with
                  | false => rfl
                  | true =>
                    have h17x := hx
                    have h16x : L 16 = true := hcl 17 _ rfl h17x 16 (by decide)
                    have h2 : L 16 = false := hLi
                    rw [h16x] at h2; cases h2
                go_big_wp2_with fail
                refine hQ _ _ _ ?_ (hJ.fld_op n17 (fun h => h))
                first | rfl | (simp [upd]; done)
              · intro L ff kk ww hkk hJ hcl hLi hwt QQ' hQ
                try dsimp only
                have n17 : L 17 = false := hLi
                have h15 : L 15 = true := hwt 15 (by decide)
                have c16 : ff 16 = _ := hJ.fld (hwt 16 (by decide))
                obtain ⟨g5, cp5, e6, y8, f8, hsp⟩ := hJ.mid h15 n17
                have e6' : ff 15 = _ := e6
                have SPX := Lib.hid hsp
                clear hsp e6
                go_big_wp2_with fail
                refine hQ _ undef _ ?_ (hJ.store_op _ h15 ⟨_, _, SPX.out⟩)
                first | rfl | (simp [upd, e6', c16]; done)
            case hend =>
              intro L ff kk wb hkb hL hJ
              try dsimp only
              obtain ⟨g5, cp5, hsp⟩ := hJ.done (hL 17 (by decide))
              have SPX := Lib.hid hsp
              have HA4 : Hid ((⟨10, n, nm, ms ++ [(numV y0.data.toList, numV y1.data.toList)]⟩ : Pl) = accM 10 ws (k + 1)) := Lib.hid (by rw [HSU.out]; unfold argM; rw [if_neg (by dsimp only; decide), if_neg (by dsimp only; decide), if_pos rfl, HMM.out])
              have hl3 : (ms ++ [(numV y0.data.toList, numV y1.data.toList)]).length ≤ k + 1 := by rw [List.length_append, List.length_singleton]; omega
              clear hJ hL hsp
              go_wp2
              go_roundw
              case rel => exact ⟨k + 1, ⟨10, n, nm, ms ++ [(numV y0.data.toList, numV y1.data.toList)]⟩, some ⟨g5, 0, none⟩, cp5, by go_num, by omega, by omega, by omega, SPX.out, Lib.hid rfl, HA4, hnm, hl3⟩
              case measure => simp [intOf]; omega
          have z10 : (o' == 10) = false := by simpa using e10
          have HA4 : Hid ((⟨o', n, nm, ms⟩ : Pl) = accM o' ws (k + 1)) := Lib.hid (by rw [HSU.out]; unfold argM; rw [if_neg (by dsimp only; omega), if_neg (by dsimp only; omega), if_neg (by dsimp only; omega)])
          clear e1 e9 e11 e2 e10
          go_wp2
          go_roundw
          case rel => exact ⟨k + 1, ⟨o', n, nm, ms⟩, a, c, by go_num, by omega, by omega, by omega, HP.out, Lib.hid rfl, HA4, hnm, by dsimp only; omega⟩
          case measure => simp [intOf]; omega
        · have HE : Hid (accM o' ws k = placeM s.data.toList) := Lib.hid (by rw [← hoe.out]; exact accM_end HWS.out (by omega) (by omega))
          have hfin : (decide ((k : Int) < (ws.length : Int)) = true ∧ decide ((k : Int) ≤ 6) = false ∧ decide (k < ws.length) = true ∧ decide (k ≤ 6) = false) ∨ (decide ((k : Int) < (ws.length : Int)) = false ∧ decide (k < ws.length) = false) := by
            rcases Nat.lt_or_ge k ws.length with h | h
            · left; exact ⟨decide_eq_true (by omega), decide_eq_false (by omega), decide_eq_true (by omega), decide_eq_false (by omega)⟩
            · right; exact ⟨decide_eq_false (by omega), decide_eq_false (by omega)⟩
          clear hk
          have HDE : Hid ((⟨o', n, nm, ms⟩ : Pl) = placeM s.data.toList) := Lib.hid (HAC.out.trans HE.out)
          obtain ⟨c0, c1, c2, c3⟩ := HP.out.cell
          dsimp only at c0 c1 c2 c3
          have hres := HP.out.res
          have hgs := grown_setRowT wr w.heap.size #[Value.int .i64 o', .int .i64 n, .string nm, .slice a ms.length c]
          have hR := setRow_heap wr w.heap.size _ #[Value.int .i64 o', .int .i64 n, .string nm, .slice a ms.length c] _ _ hres
          have hl := HP.out.lt
          have hCr : Cell4 (wr.setRow w.heap.size #[Value.int .i64 o', .int .i64 n, .string nm, .slice a ms.length c]) w.heap.size o' n nm (.slice a ms.length c) := by
            refine ⟨?_, ?_, ?_, ?_⟩ <;> (rw [Lib.cell_of_heap hR]; rfl)
          have HOW : Hid (PlO w.heap.size (wr.setRow w.heap.size #[Value.int .i64 o', .int .i64 n, .string nm, .slice a ms.length c]) ⟨o', n, nm, ms⟩ ⟨o', n, nm, a, ms.length, c⟩) := by
            refine Lib.hid ⟨rfl, rfl, rfl, rfl, owns_mono (HP.out.own.kept hgs (Or.inr ?_)) (by omega)⟩
            intro e
            have := (owns_typed HP.out.own e).1
            omega
          have HLO : Hid (Below w.heap.size w (wr.setRow w.heap.size #[Value.int .i64 o', .int .i64 n, .string nm, .slice a ms.length c])) := Lib.hid (HP.out.low.grown hgs (by omega) (fun k e => by cases e; exact Nat.le_refl _))
          have HRS := Lib.hid hres
          have HCR := Lib.hid hCr
          have hsm : SmallP ⟨o', n, nm, ms⟩ := ⟨by dsimp only; omega, by dsimp only; omega⟩
          clear hres hgs hR hCr hl HP HAC HE
          rcases hfin with ⟨g1, g2, g1n, g2n⟩ | ⟨g1, g1n⟩
          all_goals
            go_wp2_with (first
              | (refine wpList_store_row rfl 48 _ _ rfl w.heap.size #[Value.int .i64 o', .int .i64 n, .string nm, .slice a ms.length c] rfl rfl 48 #[.int .i64 0, .int .i64 0, .string ⟨#[]⟩, .slice none 0 0] HRS.out insSize rfl (insOne _ _ _ _ _ _) ?_)
              | fail)
            clear HRS c0 c1 c2 c3
            generalize wr.setRow w.heap.size #[Value.int .i64 o', .int .i64 n, .string nm, .slice a ms.length c] = w5 at *
            obtain ⟨y0, y1, y2, y3⟩ := HCR.out
            (try simp only [Exit.inBlock, Exit.then])
            refine bodyPost_ret (v := .agg #[.int .i64 o', .int .i64 n, .string nm, .slice a ms.length c]) ?_ rfl ⟨⟨o', n, nm, ms⟩, ⟨o', n, nm, a, ms.length, c⟩, HDE, rfl, HOW.out, hsm, HLO.out⟩
            rw [results_cellR rfl]
            go_simp
end Go.Proofs.YtjhgmmcglonokaaGreatDoor
