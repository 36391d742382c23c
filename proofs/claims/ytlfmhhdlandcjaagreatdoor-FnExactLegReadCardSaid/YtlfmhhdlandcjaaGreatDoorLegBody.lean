/-
  The body of the program's LegRead: what it comes to, or that it panics.
-/
import Derived.Test.YtlfmhhdlandcjaaGreatDoorLegReadI
import Derived.Test.YtlfmhhdlandcjaaGreatDoorLegWriteI
import Derived.Test.YtlfmhhdlandcjaaGreatDoorLegMarkR
import Derived.Defers
import Derived.Recover
namespace Go.Proofs.YtlfmhhdlandcjaaGreatDoor
open Go.RowKit
set_option linter.unusedVariables false
set_option linter.unusedSimpArgs false

theorem DepsT.get {S : Nat → World → Value → Prop} {f : Nat → Value} {w : World} : ∀ {l : List Nat}, Deps S f w l → ∀ {n : Nat}, n ∈ l → S n w (f n)
  | [], _, _, h => by cases h
  | m :: l, hd, n, h => by
    rcases List.mem_cons.1 h with e | e
    · subst e; exact hd.1
    · exact DepsT.get hd.2 e
theorem own_cap {w : World} {base g cap n size : Nat} {e : TypeId} {xs : List Value} (h : w.ownsRow base e size (.slice (some ⟨g, 0, none⟩) n cap) n xs) : n ≤ cap := by
  rcases h.2 with ⟨h0, _⟩ | ⟨g', cap', cur, hv, _, _, h1, _⟩
  · cases h0
  · cases hv; exact h1
theorem below_row {B b : Nat} {w w1 w' : World} (hB : Below B w w1) (hz : B ≤ w1.heap.size) (hb : B ≤ b) (hg : w1.grownBy w' (some b)) : Below B w w' :=
  hB.grown hg hz (fun k e => by cases e; exact hb)
/-- Where the three lists lie. -/
structure Pl where
  gL : Nat
  cL : Nat
  gS : Nat
  cS : Nat
  gB : Nat
  cB : Nat
def plP (q : Pl) : LegP := ⟨some ⟨q.gL, 0, none⟩, q.cL, some ⟨q.gS, 0, none⟩, q.cS, some ⟨q.gB, 0, none⟩, q.cB, none, 0⟩
abbrev rowX (x : Leg8) (q : Pl) : Array Value := rowG x.nm x.fr x.to x.dep x.arr (cap8 x.ll) (.slice (some ⟨q.gL, 0, none⟩) x.ll.length q.cL) (.slice (some ⟨q.gS, 0, none⟩) x.ls.length q.cS) (.slice (some ⟨q.gB, 0, none⟩) x.lb.length q.cB)
theorem rowX_leg (x : Leg8) (q : Pl) : LegV (leg8D x) (plP q) = .agg (rowX x q) := rfl
/-- The three lists, each in memory of its own. -/
structure Own8 (B : Nat) (w : World) (x : Leg8) (q : Pl) : Prop where
  l : ∃ b1 b2, w.ownsRow B 3 1 (.slice (some ⟨q.gL, 0, none⟩) x.ll.length q.cL) x.ll.length (cellsI x.ll) ∧ w.ownsRow b1 3 1 (.slice (some ⟨q.gS, 0, none⟩) x.ls.length q.cS) x.ls.length (cellsI x.ls) ∧ w.ownsRow b2 3 1 (.slice (some ⟨q.gB, 0, none⟩) x.lb.length q.cB) x.lb.length (cellsI x.lb) ∧ q.gL < b1 ∧ B ≤ b1 ∧ b1 ≤ b2 ∧ q.gS < b2
theorem Own8.grown {B : Nat} {w w' : World} {x : Leg8} {q : Pl} {row : Option Nat} (h : Own8 B w x q) (hg : w.grownBy w' row) (hr : ∀ k, row = some k → k < B) : Own8 B w' x q := by
  obtain ⟨b1, b2, h1, h2, h3, h4, h5, h6, h7⟩ := h.l
  have k1 : B ≤ q.gL := (h1.lt _ rfl).1
  have k2 : b1 ≤ q.gS := (h2.lt _ rfl).1
  have k3 : b2 ≤ q.gB := (h3.lt _ rfl).1
  refine ⟨b1, b2, h1.kept hg (Or.inr fun e => by have := hr q.gL e.symm; omega), h2.kept hg (Or.inr fun e => by have := hr q.gS e.symm; omega), h3.kept hg (Or.inr fun e => by have := hr q.gB e.symm; omega), h4, h5, h6, h7⟩
theorem Own8.kept {B : Nat} {w w' : World} {x : Leg8} {q : Pl} (h : Own8 B w x q) (hb : Below w.heap.size w w') : Own8 B w' x q := h.grown (grown_of_below hb) (fun k e => by cases e)
theorem Own8.mono {B B' : Nat} {w : World} {x : Leg8} {q : Pl} (h : Own8 B w x q) (hb : B' ≤ B) : Own8 B' w x q := by
  obtain ⟨b1, b2, h1, h2, h3, h4, h5, h6, h7⟩ := h.l
  exact ⟨b1, b2, own_mono h1 hb, h2, h3, h4, by omega, h6, h7⟩
theorem numsR_of {B T g cap : Nat} {w : World} {l : List Int} (h : w.ownsRow B 3 1 (.slice (some ⟨g, 0, none⟩) l.length cap) l.length (cellsI l)) (hT : g < T) : NumsR B T w (some ⟨g, 0, none⟩) l.length (fun i => l.getD i 0) :=
  Or.inr ⟨g, rfl, (h.lt g rfl).1, hT, (h.lt g rfl).2, fun i hi => ⟨(h.cellAt i (by omega)).trans (cellsI_get l i hi), h.frozenAt i⟩⟩
theorem Own8.new {B : Nat} {w : World} {x : Leg8} {q : Pl} (h : Own8 B w x q) : LegNew B w (leg8D x) (plP q) := by
  obtain ⟨b1, b2, h1, h2, h3, h4, h5, h6, h7⟩ := h.l
  have k2 := (h2.lt _ rfl)
  have k3 := (h3.lt _ rfl)
  exact ⟨⟨own_cap h1, own_cap h2, own_cap h3, Nat.le_refl _⟩, b1, b2, w.heap.size, w.heap.size, h5, h6, by omega, Nat.le_refl _, Nat.le_refl _, numsR_of h1 h4, numsR_of h2 h7, numsR_of h3 k3.2, .inl rfl⟩
theorem Own8.legIn {B : Nat} {w : World} {x : Leg8} {q : Pl} (h : Own8 B w x q) : LegIn w (leg8D x) (plP q) := h.new.leg
def Fit8 (x : Leg8) (k : Nat) : Prop := x.nm.size ≤ k ∧ x.fr.size ≤ k ∧ x.to.size ≤ k ∧ x.ll.length ≤ k ∧ x.ls.length ≤ k ∧ x.lb.length ≤ k
theorem fits8 {x : Leg8} {k : Nat} (h : Fit8 x k) (hk : k ≤ 1048576) : Fits (leg8D x) := by
  obtain ⟨a, b, c, d, e, f⟩ := h
  exact ⟨show x.nm.size ≤ _ by omega, show x.fr.size ≤ _ by omega, show x.to.size ≤ _ by omega, show x.ll.length ≤ _ by omega, show x.ls.length ≤ _ by omega, show x.lb.length ≤ _ by omega, Nat.zero_le _⟩
def STl (x : Leg8) (q : Pl) (o s : ByteArray) (i : Nat) (W : World) (v : Value) : Prop := match i with
  | 0 => v = .agg (rowX x q)
  | 1 => v = .string o
  | 2 => v = .string s
  | 3 => v = .bool (!(o.toList == s.toList))
  | _ => True
def BodyPostL (s : ByteArray) (w : World) (e : Ending) (w' : World) : Prop :=
  Below w.heap.size w w' ∧ ((Hid (¬ IsLegT s) ∧ e = Fell) ∨ ∃ (x : Leg8) (q : Pl), Hid (OkLeg (leg8D x) ∧ legB (leg8D x) = s) ∧ e = .returned (.agg (rowX x q)) ∧ Own8 w.heap.size w' x q)
set_option maxRecDepth 100000 in
set_option maxHeartbeats 8000000 in
theorem bodyC (tb : Nat) (s : ByteArray) (w : World) (hs : s.size ≤ 1048576) (hL : LaidE w) (hc : w.cell? ⟨tb, 0, none⟩ = some (.string s)) (htb : tb < w.heap.size) :
    Calls Tryz.prog 21 #[.pointer (some ⟨tb, 0, none⟩)] w (BodyPostL s w) := by
  have HL := Lib.hid hL
  have HC := Lib.hid hc
  have hA1 : Below w.heap.size w (w.alloc (.cells (rowG ⟨#[]⟩ ⟨#[]⟩ ⟨#[]⟩ 0 0 0 (.slice none 0 0) (.slice none 0 0) (.slice none 0 0)) 25)) := (Below.refl _ _).alloc (Nat.le_refl _) _
  have hA : Below w.heap.size w ((w.alloc (.cells (rowG ⟨#[]⟩ ⟨#[]⟩ ⟨#[]⟩ 0 0 0 (.slice none 0 0) (.slice none 0 0) (.slice none 0 0)) 25)).alloc (.cells #[.string s, .int .i64 0] 45)) := hA1.alloc hA1.size _
  have hX0 : ((w.alloc (.cells (rowG ⟨#[]⟩ ⟨#[]⟩ ⟨#[]⟩ 0 0 0 (.slice none 0 0) (.slice none 0 0) (.slice none 0 0)) 25)).alloc (.cells #[.string s, .int .i64 0] 45)).heap[w.heap.size]? = some (.cells (rowG ⟨#[]⟩ ⟨#[]⟩ ⟨#[]⟩ 0 0 0 (.slice none 0 0) (.slice none 0 0) (.slice none 0 0)) 25 (0, 0)) := by
    rw [Below.heap_alloc _ _ _ (by simp)]; exact heap_alloc_new w _
  have hX1 : ((w.alloc (.cells (rowG ⟨#[]⟩ ⟨#[]⟩ ⟨#[]⟩ 0 0 0 (.slice none 0 0) (.slice none 0 0) (.slice none 0 0)) 25)).alloc (.cells #[.string s, .int .i64 0] 45)).heap[w.heap.size + 1]? = some (.cells #[.string s, .int .i64 0] 45 (0, 0)) := by
    have := heap_alloc_new (w.alloc (.cells (rowG ⟨#[]⟩ ⟨#[]⟩ ⟨#[]⟩ 0 0 0 (.slice none 0 0) (.slice none 0 0) (.slice none 0 0)) 25)) (.cells #[.string s, .int .i64 0] 45)
    simpa using this
  have hR : RdS ((w.alloc (.cells (rowG ⟨#[]⟩ ⟨#[]⟩ ⟨#[]⟩ 0 0 0 (.slice none 0 0) (.slice none 0 0) (.slice none 0 0)) 25)).alloc (.cells #[.string s, .int .i64 0] 45)) (w.heap.size + 1) s 0 := by
    refine ⟨?_, ?_, frozen_of_row _ _ _ _ _ hX1, lt_heap hX1, Nat.zero_le _⟩ <;> (rw [Lib.cell_of_heap hX1]; rfl)
  have K := Lib.hid (legC8 w (w.heap.size + 1) s 0 _ hR hs HL.out hA (by omega))
  have HA := Lib.hid hA
  have HY0 := Lib.hid ((hA.cell (p := ⟨tb, 0, none⟩) htb).trans hc)
  have HX0 := Lib.hid hX0
  have hsz : ((w.alloc (.cells (rowG ⟨#[]⟩ ⟨#[]⟩ ⟨#[]⟩ 0 0 0 (.slice none 0 0) (.slice none 0 0) (.slice none 0 0)) 25)).alloc (.cells #[.string s, .int .i64 0] 45)).heap.size = w.heap.size + 2 := by simp
  have y0 : (w.alloc (.cells (rowG ⟨#[]⟩ ⟨#[]⟩ ⟨#[]⟩ 0 0 0 (.slice none 0 0) (.slice none 0 0) (.slice none 0 0)) 25)).cell? ⟨tb, 0, none⟩ = some (.string s) := (hA1.cell (p := ⟨tb, 0, none⟩) htb).trans hc
  clear hA hA1 hX0 hX1 hR hL hc
  go_enter Tryz.func21, Tryz.ntmps21
  go_wp2_with fail
  refine K.out.mono ?_
  generalize ((w.alloc (.cells (rowG ⟨#[]⟩ ⟨#[]⟩ ⟨#[]⟩ 0 0 0 (.slice none 0 0) (.slice none 0 0) (.slice none 0 0)) 25)).alloc (.cells #[.string s, .int .i64 0] 45)) = wB at *
  rintro e w1 ⟨hg1, ⟨hn, he⟩ | ⟨x, q1, gL, cL, gS, cS, gB, cB, b1, b2, hp, hfit, rfl, ho1, ho2, ho3, ho4, ho5, ho6, ho7, hr1⟩⟩
  · unfold Fell at he
    subst he
    have HB1 := Lib.hid (own_below HA.out (show w.heap.size ≤ w.heap.size + 1 by omega) hg1)
    have HN := Lib.hid (lb_none hn.out)
    clear hg1 hn K
    go_wp2
    exact ⟨rfl, HB1.out, Or.inl ⟨HN, rfl⟩⟩
  have hq : Own8 wB.heap.size w1 x ⟨gL, cL, gS, cS, gB, cB⟩ := ⟨b1, b2, ho1, ho2, ho3, ho4, ho5, ho6, ho7⟩
  clear ho1 ho2 ho3 ho4 ho5 ho6 ho7
  have hb1 := own_below HA.out (show w.heap.size ≤ w.heap.size + 1 by omega) hg1
  have X1 := (grown_block hg1 (by omega) (by omega : w.heap.size ≠ w.heap.size + 1)).trans HX0.out
  have hA2 : Below w1.heap.size w1 (w1.alloc (.cells (rowG ⟨#[]⟩ ⟨#[]⟩ ⟨#[]⟩ 0 0 0 (.slice none 0 0) (.slice none 0 0) (.slice none 0 0)) 25)) := (Below.refl _ _).alloc (Nat.le_refl _) _
  have hA3 : Below w1.heap.size w1 ((w1.alloc (.cells (rowG ⟨#[]⟩ ⟨#[]⟩ ⟨#[]⟩ 0 0 0 (.slice none 0 0) (.slice none 0 0) (.slice none 0 0)) 25)).setRow w1.heap.size (rowX x ⟨gL, cL, gS, cS, gB, cB⟩)) := own_below hA2 (Nat.le_refl _) (grown_setRow _ _ _)
  have hz1 : w.heap.size < w1.heap.size := lt_heap X1
  have htb1 : tb < w1.heap.size := by omega
  have y1 : w1.cell? ⟨tb, 0, none⟩ = some (.string s) := hg1.cell HY0.out (by simp; omega)
  have XN := heap_alloc_new w1 (.cells (rowG ⟨#[]⟩ ⟨#[]⟩ ⟨#[]⟩ 0 0 0 (.slice none 0 0) (.slice none 0 0) (.slice none 0 0)) 25)
  have XR := setRow_heap _ w1.heap.size _ (rowX x ⟨gL, cL, gS, cS, gB, cB⟩) _ _ XN
  have HXR := Lib.hid XR
  have HXN := Lib.hid XN
  have HX3 := Lib.hid ((hA3.block _ hz1).trans X1)
  have HY1 := Lib.hid ((hA3.cell (p := ⟨tb, 0, none⟩) htb1).trans y1)
  have HO3 := Lib.hid ((hq.mono (show w.heap.size + 1 ≤ wB.heap.size by omega)).kept hA3)
  have HB3 := Lib.hid (hb1.trans (hA3.mono (by omega)))
  have HP := Lib.hid hp.out
  have HF : Hid (Fits (leg8D x)) := fits8 hfit.out hs
  have HL3 := Lib.hid (laid_stays HL.out.1 HB3.out)
  clear hg1 hb1 X1 hA2 hA3 y1 XN XR hq hp hfit K HX0 HA y0 HY0 hr1
  go_wp2_with (first
    | (refine wpList_store_row rfl 25 _ _ rfl w1.heap.size (rowX x ⟨gL, cL, gS, cS, gB, cB⟩) rfl rfl 25 (rowG ⟨#[]⟩ ⟨#[]⟩ ⟨#[]⟩ 0 0 0 (.slice none 0 0) (.slice none 0 0) (.slice none 0 0)) HXN.out legSize rfl (rowG_one _ _ _ _ _ _ _ _ _ rfl rfl rfl) ?_)
    | fail)
  (try simp only [Exit.inBlock, Exit.then])
  generalize (w1.alloc (.cells (rowG ⟨#[]⟩ ⟨#[]⟩ ⟨#[]⟩ 0 0 0 (.slice none 0 0) (.slice none 0 0) (.slice none 0 0)) 25)).setRow w1.heap.size (rowX x ⟨gL, cL, gS, cS, gB, cB⟩) = w3 at *
  have l3 := lt_heap HXR.out
  have l0 := lt_heap HX3.out
  have hz3 : w.heap.size ≤ w3.heap.size := HB3.out.size
  have htb3 : tb < w3.heap.size := by omega
  generalize w1.heap.size = g3 at *
  clear HXN hz1 htb1 hsz
  generalize hpl : (⟨gL, cL, gS, cS, gB, cB⟩ : Pl) = pl at *
  refine wp_region_free' (by kernel_rfl) (fun _ W => Below w3.heap.size w3 W) (fun _ _ => True) (STl x pl (legO (leg8D x)) s) (by kernel_rfl) (fun i k v W W' h _ _ => h) ((Below.refl _ _).drew) ?_
  apply Exists.intro
  apply And.intro
  · intro f
    simp only [over, List.set]
    exact rfl
  refine ⟨?hops, ?hend⟩
  case hops =>
    refine EachOp.cons ?_ (EachOp.cons ?_ (EachOp.cons ?_ (EachOp.cons ?_ EachOp.nil)))
    · intro ff kk ww hkk hI hd QQ' hQ
      try dsimp only
      obtain ⟨z0, z1, z2, z3, z4, z5, z6, z7, z8, z9⟩ := rowG_cells ((hI.block _ l3).trans HXR.out)
      go_big_wp2_with fail
      refine hQ _ _ _ ?_ hI trivial rfl
      first | rfl | (simp [upd]; done)
    · intro ff kk ww hkk hI hd QQ' hQ
      try dsimp only
      have c0' : ff 0 = _ := DepsT.get hd (n := 0) (by decide)
      have hin := (HO3.out.kept hI).new
      go_big_wp2_with fail
      refine (writeI (leg8D x) (plP pl) ww hin.leg HF.out hin.1.1 hin.1.2.1 hin.1.2.2.1 (laid_stays HL3.out hI)).mono ?_
      rintro e wa ⟨o, rfl, ho, da⟩
      obtain rfl := legO_of ho.out
      go_big_wp2_with fail
      refine hQ _ _ wa ?_ (hI.trans (da.mono hI.size)) trivial rfl
      first | rfl | (simp [upd, c0']; done)
    · intro ff kk ww hkk hI hd QQ' hQ
      try dsimp only
      have y2 : ww.cell? ⟨tb, 0, none⟩ = some (.string s) := (hI.cell (p := ⟨tb, 0, none⟩) htb3).trans HY1.out
      go_big_wp2_with fail
      refine hQ _ _ _ ?_ hI trivial rfl
      first | rfl | (simp [upd]; done)
    · intro ff kk ww hkk hI hd QQ' hQ
      try dsimp only
      have c1' : ff 1 = _ := DepsT.get hd (n := 1) (by decide)
      have c2' : ff 2 = _ := DepsT.get hd (n := 2) (by decide)
      go_big_wp2_with fail
      refine hQ _ _ _ ?_ hI trivial rfl
      first | rfl | (simp [upd, c1', c2']; done)
  case hend =>
  intro ff kk w4 d4 hS
  try dsimp only
  have cz : ff 3 = _ := hS 3 (by decide)
  rw [cz]
  have HB4 := Lib.hid (HB3.out.trans (d4.mono hz3))
  have HO4 := Lib.hid (HO3.out.kept d4)
  have HX4 := Lib.hid ((d4.block _ l0).trans HX3.out)
  have HX5 := Lib.hid ((d4.block _ l3).trans HXR.out)
  clear cz hS d4 HO3 HX3 HXR HY1
  generalize hbz : (!((legO (leg8D x)).toList == s.toList)) = bz
  cases bz with
  | true =>
    have hq : (legO (leg8D x)).toList ≠ s.toList := by intro e; rw [e] at hbz; simp at hbz
    have HY2 := Lib.hid (lb_no HP.out hq)
    clear hq hbz
    go_wp2
    exact ⟨rfl, HB4.out, Or.inl ⟨HY2, rfl⟩⟩
  | false =>
    have hq : (legO (leg8D x)).toList = s.toList := by simpa using hbz
    have HY2 := Lib.hid (lb_yes HP.out hq)
    clear hq hbz
    obtain ⟨z0, z1, z2, z3, z4, z5, z6, z7, z8, z9⟩ := rowG_cells HX5.out
    have hB6 : w4.grownBy (w4.setRow w.heap.size (rowX x pl)) (some w.heap.size) := grown_setRow _ _ _
    have HY6 := Lib.hid (rowG_cells (setRow_heap _ w.heap.size _ (rowX x pl) _ _ HX4.out))
    have HB6 := Lib.hid (own_below HB4.out (Nat.le_refl _) hB6)
    have HO6 := Lib.hid ((HO4.out.grown hB6 (fun k e => by cases e; omega)).mono (show w.heap.size ≤ w.heap.size + 1 by omega))
    clear hB6
    go_wp2_with (first
      | (refine wpList_store_row rfl 25 _ _ rfl w.heap.size (rowX x pl) rfl rfl 25 (rowG ⟨#[]⟩ ⟨#[]⟩ ⟨#[]⟩ 0 0 0 (.slice none 0 0) (.slice none 0 0) (.slice none 0 0)) HX4.out legSize rfl (rowG_one _ _ _ _ _ _ _ _ _ rfl rfl rfl) ?_)
      | fail)
    generalize w4.setRow w.heap.size (rowX x pl) = w6 at *
    obtain ⟨y0, y1, y2, y3, y4, y5, y6, y7, y8, y9⟩ := HY6.out
    (try simp only [Exit.inBlock, Exit.then])
    refine bodyPost_ret (v := .agg (rowX x pl)) ?_ rfl ⟨HB6.out, Or.inr ⟨x, pl, HY2, rfl, HO6.out⟩⟩
    rw [results_cell1 rfl]
    go_simp
end Go.Proofs.YtlfmhhdlandcjaaGreatDoor
