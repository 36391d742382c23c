/-
  The body of the program's LegRead: what it comes to, or that it panics.
  What the model reads of a leg's text: by its pieces; and the model's l6Nums.
  A leg that is ok, read as its text says it: the same leg without what is held.
-/
import Derived.Test.YtdaccpffdnbkiaaGreatDoorJ26
import Derived.Test.YtdaccpffdnbkiaaGreatDoorJ23
import Derived.Test.YtdaccpffdnbkiaaGreatDoorJ29
import Derived.Defers
import Derived.Recover
import Derived.Test.YtdaccpffdnbkiaaGreatDoorCut3
import Derived.Test.YtdaccpffdnbkiaaGreatDoorNum
namespace Go.Proofs.YtdaccpffdnbkiaaGreatDoor
open Go.RowKit
set_option linter.unusedVariables false
set_option linter.unusedSimpArgs false

theorem DepsT.get {S : Nat → World → Value → Prop} {f : Nat → Value} {w : World} : ∀ {l : List Nat}, Deps S f w l → ∀ {n : Nat}, n ∈ l → S n w (f n)
  | [], _, _, h => by cases h
  | m :: l, hd, n, h => by
    rcases List.mem_cons.1 h with e | e
    · subst e; exact hd.1
    · exact DepsT.get hd.2 e
theorem own_cap {w : World} {base g cap n size : Nat} {e : TypeId} {xs : List Value} (h : w.ownsRow base e size (.slice (some ⟨g, 0, none⟩) n cap) n xs) : n ≤ cap := by
  rcases h.2 with ⟨h0, _⟩ | ⟨g', cap', cur, hv, _, _, h1, _⟩
  · cases h0
  · cases hv; exact h1
theorem below_row {B b : Nat} {w w1 w' : World} (hB : Below B w w1) (hz : B ≤ w1.heap.size) (hb : B ≤ b) (hg : w1.grownBy w' (some b)) : Below B w w' :=
  hB.grown hg hz (fun k e => by cases e; exact hb)
/-- Where the three lists lie. -/
structure Pl where
  gL : Nat
  cL : Nat
  gS : Nat
  cS : Nat
  gB : Nat
  cB : Nat
def plP (q : Pl) : LegP := ⟨some ⟨q.gL, 0, none⟩, q.cL, some ⟨q.gS, 0, none⟩, q.cS, some ⟨q.gB, 0, none⟩, q.cB, none, 0⟩
abbrev rowX (x : Leg8) (q : Pl) : Array Value := rowG x.nm x.fr x.to x.dep x.arr (cap8 x.ll) (.slice (some ⟨q.gL, 0, none⟩) x.ll.length q.cL) (.slice (some ⟨q.gS, 0, none⟩) x.ls.length q.cS) (.slice (some ⟨q.gB, 0, none⟩) x.lb.length q.cB)
theorem rowX_leg (x : Leg8) (q : Pl) : LegV (leg8D x) (plP q) = .agg (rowX x q) := rfl
/-- The three lists, each in memory of its own. -/
structure Own8 (B : Nat) (w : World) (x : Leg8) (q : Pl) : Prop where
  l : ∃ b1 b2, w.ownsRow B 3 1 (.slice (some ⟨q.gL, 0, none⟩) x.ll.length q.cL) x.ll.length (cellsI x.ll) ∧ w.ownsRow b1 3 1 (.slice (some ⟨q.gS, 0, none⟩) x.ls.length q.cS) x.ls.length (cellsI x.ls) ∧ w.ownsRow b2 3 1 (.slice (some ⟨q.gB, 0, none⟩) x.lb.length q.cB) x.lb.length (cellsI x.lb) ∧ q.gL < b1 ∧ B ≤ b1 ∧ b1 ≤ b2 ∧ q.gS < b2
theorem Own8.grown {B : Nat} {w w' : World} {x : Leg8} {q : Pl} {row : Option Nat} (h : Own8 B w x q) (hg : w.grownBy w' row) (hr : ∀ k, row = some k → k < B) : Own8 B w' x q := by
  obtain ⟨b1, b2, h1, h2, h3, h4, h5, h6, h7⟩ := h.l
  have k1 : B ≤ q.gL := (h1.lt _ rfl).1
  have k2 : b1 ≤ q.gS := (h2.lt _ rfl).1
  have k3 : b2 ≤ q.gB := (h3.lt _ rfl).1
  refine ⟨b1, b2, h1.kept hg (Or.inr fun e => by have := hr q.gL e.symm; omega), h2.kept hg (Or.inr fun e => by have := hr q.gS e.symm; omega), h3.kept hg (Or.inr fun e => by have := hr q.gB e.symm; omega), h4, h5, h6, h7⟩
theorem Own8.kept {B : Nat} {w w' : World} {x : Leg8} {q : Pl} (h : Own8 B w x q) (hb : Below w.heap.size w w') : Own8 B w' x q := h.grown (grown_of_below hb) (fun k e => by cases e)
theorem Own8.mono {B B' : Nat} {w : World} {x : Leg8} {q : Pl} (h : Own8 B w x q) (hb : B' ≤ B) : Own8 B' w x q := by
  obtain ⟨b1, b2, h1, h2, h3, h4, h5, h6, h7⟩ := h.l
  exact ⟨b1, b2, ownMonoN h1 hb, h2, h3, h4, by omega, h6, h7⟩
theorem numsR_of {B T g cap : Nat} {w : World} {l : List Int} (h : w.ownsRow B 3 1 (.slice (some ⟨g, 0, none⟩) l.length cap) l.length (cellsI l)) (hT : g < T) : NumsR B T w (some ⟨g, 0, none⟩) l.length (fun i => l.getD i 0) :=
  Or.inr ⟨g, rfl, (h.lt g rfl).1, hT, (h.lt g rfl).2, fun i hi => ⟨(h.cellAt i (by omega)).trans (cellsI_get l i hi), h.frozenAt i⟩⟩
theorem Own8.new {B : Nat} {w : World} {x : Leg8} {q : Pl} (h : Own8 B w x q) : LegNew B w (leg8D x) (plP q) := by
  obtain ⟨b1, b2, h1, h2, h3, h4, h5, h6, h7⟩ := h.l
  have k2 := (h2.lt _ rfl)
  have k3 := (h3.lt _ rfl)
  exact ⟨⟨own_cap h1, own_cap h2, own_cap h3, Nat.le_refl _⟩, b1, b2, w.heap.size, w.heap.size, h5, h6, by omega, Nat.le_refl _, Nat.le_refl _, numsR_of h1 h4, numsR_of h2 h7, numsR_of h3 k3.2, .inl rfl⟩
theorem Own8.legIn {B : Nat} {w : World} {x : Leg8} {q : Pl} (h : Own8 B w x q) : LegIn w (leg8D x) (plP q) := h.new.leg
def Fit8 (x : Leg8) (k : Nat) : Prop := x.nm.size ≤ k ∧ x.fr.size ≤ k ∧ x.to.size ≤ k ∧ x.ll.length ≤ k ∧ x.ls.length ≤ k ∧ x.lb.length ≤ k
theorem fits8 {x : Leg8} {k : Nat} (h : Fit8 x k) (hk : k ≤ 1048576) : Fits (leg8D x) := by
  obtain ⟨a, b, c, d, e, f⟩ := h
  exact ⟨show x.nm.size ≤ _ by omega, show x.fr.size ≤ _ by omega, show x.to.size ≤ _ by omega, show x.ll.length ≤ _ by omega, show x.ls.length ≤ _ by omega, show x.lb.length ≤ _ by omega, Nat.zero_le _⟩
def STl (x : Leg8) (q : Pl) (o s : ByteArray) (i : Nat) (W : World) (v : Value) : Prop := match i with
  | 0 => v = .agg (rowX x q)
  | 1 => v = .string o
  | 2 => v = .string s
  | 3 => v = .bool (!(o.toList == s.toList))
  | _ => True
def BodyPostL (s : ByteArray) (w : World) (e : Ending) (w' : World) : Prop :=
  Below w.heap.size w w' ∧ ((Hid (¬ IsLegT s) ∧ e = Fell) ∨ ∃ (x : Leg8) (q : Pl), Hid (OkLeg (leg8D x) ∧ legB (leg8D x) = s) ∧ e = .returned (.agg (rowX x q)) ∧ Own8 w.heap.size w' x q)
set_option maxRecDepth 100000 in
set_option maxHeartbeats 8000000 in
theorem bodyC (tb : Nat) (s : ByteArray) (w : World) (hs : s.size ≤ 1048576) (hL : LaidE w) (hc : w.cell? ⟨tb, 0, none⟩ = some (.string s)) (htb : tb < w.heap.size) :
    Calls Tryz.prog 21 #[.pointer (some ⟨tb, 0, none⟩)] w (BodyPostL s w) := by
  have HL := Lib.hid hL
  have HC := Lib.hid hc
  have hA1 : Below w.heap.size w (w.alloc (.cells (rowG ⟨#[]⟩ ⟨#[]⟩ ⟨#[]⟩ 0 0 0 (.slice none 0 0) (.slice none 0 0) (.slice none 0 0)) 25)) := (Below.refl _ _).alloc (Nat.le_refl _) _
  have hA : Below w.heap.size w ((w.alloc (.cells (rowG ⟨#[]⟩ ⟨#[]⟩ ⟨#[]⟩ 0 0 0 (.slice none 0 0) (.slice none 0 0) (.slice none 0 0)) 25)).alloc (.cells #[.string s, .int .i64 0] 45)) := hA1.alloc hA1.size _
  have hX0 : ((w.alloc (.cells (rowG ⟨#[]⟩ ⟨#[]⟩ ⟨#[]⟩ 0 0 0 (.slice none 0 0) (.slice none 0 0) (.slice none 0 0)) 25)).alloc (.cells #[.string s, .int .i64 0] 45)).heap[w.heap.size]? = some (.cells (rowG ⟨#[]⟩ ⟨#[]⟩ ⟨#[]⟩ 0 0 0 (.slice none 0 0) (.slice none 0 0) (.slice none 0 0)) 25 (0, 0)) := by
    rw [Below.heap_alloc _ _ _ (by simp)]; exact heap_alloc_new w _
  have hX1 : ((w.alloc (.cells (rowG ⟨#[]⟩ ⟨#[]⟩ ⟨#[]⟩ 0 0 0 (.slice none 0 0) (.slice none 0 0) (.slice none 0 0)) 25)).alloc (.cells #[.string s, .int .i64 0] 45)).heap[w.heap.size + 1]? = some (.cells #[.string s, .int .i64 0] 45 (0, 0)) := by
    have := heap_alloc_new (w.alloc (.cells (rowG ⟨#[]⟩ ⟨#[]⟩ ⟨#[]⟩ 0 0 0 (.slice none 0 0) (.slice none 0 0) (.slice none 0 0)) 25)) (.cells #[.string s, .int .i64 0] 45)
    simpa using this
  have hR : RdS ((w.alloc (.cells (rowG ⟨#[]⟩ ⟨#[]⟩ ⟨#[]⟩ 0 0 0 (.slice none 0 0) (.slice none 0 0) (.slice none 0 0)) 25)).alloc (.cells #[.string s, .int .i64 0] 45)) (w.heap.size + 1) s 0 := by
    refine ⟨?_, ?_, frozen_of_row _ _ _ _ _ hX1, lt_heap hX1, Nat.zero_le _⟩ <;> (rw [Lib.cell_of_heap hX1]; rfl)
  have K := Lib.hid (legC8 w (w.heap.size + 1) s 0 _ hR hs HL.out hA (by omega))
  have HA := Lib.hid hA
  have HY0 := Lib.hid ((hA.cell (p := ⟨tb, 0, none⟩) htb).trans hc)
  have HX0 := Lib.hid hX0
  have hsz : ((w.alloc (.cells (rowG ⟨#[]⟩ ⟨#[]⟩ ⟨#[]⟩ 0 0 0 (.slice none 0 0) (.slice none 0 0) (.slice none 0 0)) 25)).alloc (.cells #[.string s, .int .i64 0] 45)).heap.size = w.heap.size + 2 := by simp
  have y0 : (w.alloc (.cells (rowG ⟨#[]⟩ ⟨#[]⟩ ⟨#[]⟩ 0 0 0 (.slice none 0 0) (.slice none 0 0) (.slice none 0 0)) 25)).cell? ⟨tb, 0, none⟩ = some (.string s) := (hA1.cell (p := ⟨tb, 0, none⟩) htb).trans hc
  clear hA hA1 hX0 hX1 hR hL hc
  go_enter Tryz.func21, Tryz.ntmps21
  go_wp2_with fail
  refine K.out.mono ?_
  generalize ((w.alloc (.cells (rowG ⟨#[]⟩ ⟨#[]⟩ ⟨#[]⟩ 0 0 0 (.slice none 0 0) (.slice none 0 0) (.slice none 0 0)) 25)).alloc (.cells #[.string s, .int .i64 0] 45)) = wB at *
  rintro e w1 ⟨hg1, ⟨hn, he⟩ | ⟨x, q1, gL, cL, gS, cS, gB, cB, b1, b2, hp, hfit, rfl, ho1, ho2, ho3, ho4, ho5, ho6, ho7, hr1⟩⟩
  · unfold Fell at he
    subst he
    have HB1 := Lib.hid (own_below HA.out (show w.heap.size ≤ w.heap.size + 1 by omega) hg1)
    have HN := Lib.hid (lb_none hn.out)
    clear hg1 hn K
    go_wp2
    exact ⟨rfl, HB1.out, Or.inl ⟨HN, rfl⟩⟩
  have hq : Own8 wB.heap.size w1 x ⟨gL, cL, gS, cS, gB, cB⟩ := ⟨b1, b2, ho1, ho2, ho3, ho4, ho5, ho6, ho7⟩
  clear ho1 ho2 ho3 ho4 ho5 ho6 ho7
  have hb1 := own_below HA.out (show w.heap.size ≤ w.heap.size + 1 by omega) hg1
  have X1 := (grown_block hg1 (by omega) (by omega : w.heap.size ≠ w.heap.size + 1)).trans HX0.out
  have hA2 : Below w1.heap.size w1 (w1.alloc (.cells (rowG ⟨#[]⟩ ⟨#[]⟩ ⟨#[]⟩ 0 0 0 (.slice none 0 0) (.slice none 0 0) (.slice none 0 0)) 25)) := (Below.refl _ _).alloc (Nat.le_refl _) _
  have hA3 : Below w1.heap.size w1 ((w1.alloc (.cells (rowG ⟨#[]⟩ ⟨#[]⟩ ⟨#[]⟩ 0 0 0 (.slice none 0 0) (.slice none 0 0) (.slice none 0 0)) 25)).setRow w1.heap.size (rowX x ⟨gL, cL, gS, cS, gB, cB⟩)) := own_below hA2 (Nat.le_refl _) (grown_setRow _ _ _)
  have hz1 : w.heap.size < w1.heap.size := lt_heap X1
  have htb1 : tb < w1.heap.size := by omega
  have y1 : w1.cell? ⟨tb, 0, none⟩ = some (.string s) := hg1.cell HY0.out (by simp; omega)
  have XN := heap_alloc_new w1 (.cells (rowG ⟨#[]⟩ ⟨#[]⟩ ⟨#[]⟩ 0 0 0 (.slice none 0 0) (.slice none 0 0) (.slice none 0 0)) 25)
  have XR := setRow_heap _ w1.heap.size _ (rowX x ⟨gL, cL, gS, cS, gB, cB⟩) _ _ XN
  have HXR := Lib.hid XR
  have HXN := Lib.hid XN
  have HX3 := Lib.hid ((hA3.block _ hz1).trans X1)
  have HY1 := Lib.hid ((hA3.cell (p := ⟨tb, 0, none⟩) htb1).trans y1)
  have HO3 := Lib.hid ((hq.mono (show w.heap.size + 1 ≤ wB.heap.size by omega)).kept hA3)
  have HB3 := Lib.hid (hb1.trans (hA3.mono (by omega)))
  have HP := Lib.hid hp.out
  have HF : Hid (Fits (leg8D x)) := fits8 hfit.out hs
  have HL3 := Lib.hid (laid_stays HL.out.1 HB3.out)
  clear hg1 hb1 X1 hA2 hA3 y1 XN XR hq hp hfit K HX0 HA y0 HY0 hr1
  go_wp2_with (first
    | (refine wpList_store_row rfl 25 _ _ rfl w1.heap.size (rowX x ⟨gL, cL, gS, cS, gB, cB⟩) rfl rfl 25 (rowG ⟨#[]⟩ ⟨#[]⟩ ⟨#[]⟩ 0 0 0 (.slice none 0 0) (.slice none 0 0) (.slice none 0 0)) HXN.out legSize rfl (rowG_one _ _ _ _ _ _ _ _ _ rfl rfl rfl) ?_)
    | fail)
  (try simp only [Exit.inBlock, Exit.then])
  generalize (w1.alloc (.cells (rowG ⟨#[]⟩ ⟨#[]⟩ ⟨#[]⟩ 0 0 0 (.slice none 0 0) (.slice none 0 0) (.slice none 0 0)) 25)).setRow w1.heap.size (rowX x ⟨gL, cL, gS, cS, gB, cB⟩) = w3 at *
  have l3 := lt_heap HXR.out
  have l0 := lt_heap HX3.out
  have hz3 : w.heap.size ≤ w3.heap.size := HB3.out.size
  have htb3 : tb < w3.heap.size := by omega
  generalize w1.heap.size = g3 at *
  clear HXN hz1 htb1 hsz
  generalize hpl : (⟨gL, cL, gS, cS, gB, cB⟩ : Pl) = pl at *
  refine wp_region_free' (by kernel_rfl) (fun _ W => Below w3.heap.size w3 W) (fun _ _ => True) (STl x pl (legO (leg8D x)) s) (by kernel_rfl) (fun i k v W W' h _ _ => h) ((Below.refl _ _).drew) ?_
  apply Exists.intro
  apply And.intro
  · intro f
    simp only [over, List.set]
    exact rfl
  refine ⟨?hops, ?hend⟩
  case hops =>
    refine EachOp.cons ?_ (EachOp.cons ?_ (EachOp.cons ?_ (EachOp.cons ?_ EachOp.nil)))
    · intro ff kk ww hkk hI hd QQ' hQ
      try dsimp only
      obtain ⟨z0, z1, z2, z3, z4, z5, z6, z7, z8, z9⟩ := rowG_cells ((hI.block _ l3).trans HXR.out)
      go_big_wp2_with fail
      refine hQ _ _ _ ?_ hI trivial rfl
      first | rfl | (simp [upd]; done)
    · intro ff kk ww hkk hI hd QQ' hQ
      try dsimp only
      have c0' : ff 0 = _ := DepsT.get hd (n := 0) (by decide)
      have hin := (HO3.out.kept hI).new
      go_big_wp2_with fail
      refine (writeI (leg8D x) (plP pl) ww hin.leg HF.out hin.1.2.1 (laid_stays HL3.out hI)).mono ?_
      rintro e wa ⟨o, rfl, ho, da⟩
      obtain rfl := legO_of ho.out
      go_big_wp2_with fail
      refine hQ _ _ wa ?_ (hI.trans (da.mono hI.size)) trivial rfl
      first | rfl | (simp [upd, c0']; done)
    · intro ff kk ww hkk hI hd QQ' hQ
      try dsimp only
      have y2 : ww.cell? ⟨tb, 0, none⟩ = some (.string s) := (hI.cell (p := ⟨tb, 0, none⟩) htb3).trans HY1.out
      go_big_wp2_with fail
      refine hQ _ _ _ ?_ hI trivial rfl
      first | rfl | (simp [upd]; done)
    · intro ff kk ww hkk hI hd QQ' hQ
      try dsimp only
      have c1' : ff 1 = _ := DepsT.get hd (n := 1) (by decide)
      have c2' : ff 2 = _ := DepsT.get hd (n := 2) (by decide)
      go_big_wp2_with fail
      refine hQ _ _ _ ?_ hI trivial rfl
      first | rfl | (simp [upd, c1', c2']; done)
  case hend =>
  intro ff kk w4 d4 hS
  try dsimp only
  have cz : ff 3 = _ := hS 3 (by decide)
  rw [cz]
  have HB4 := Lib.hid (HB3.out.trans (d4.mono hz3))
  have HO4 := Lib.hid (HO3.out.kept d4)
  have HX4 := Lib.hid ((d4.block _ l0).trans HX3.out)
  have HX5 := Lib.hid ((d4.block _ l3).trans HXR.out)
  clear cz hS d4 HO3 HX3 HXR HY1
  generalize hbz : (!((legO (leg8D x)).toList == s.toList)) = bz
  cases bz with
  | true =>
    have hq : (legO (leg8D x)).toList ≠ s.toList := by intro e; rw [e] at hbz; simp at hbz
    have HY2 := Lib.hid (lb_no HP.out hq)
    clear hq hbz
    go_wp2
    exact ⟨rfl, HB4.out, Or.inl ⟨HY2, rfl⟩⟩
  | false =>
    have hq : (legO (leg8D x)).toList = s.toList := by simpa using hbz
    have HY2 := Lib.hid (lb_yes HP.out hq)
    clear hq hbz
    obtain ⟨z0, z1, z2, z3, z4, z5, z6, z7, z8, z9⟩ := rowG_cells HX5.out
    have hB6 : w4.grownBy (w4.setRow w.heap.size (rowX x pl)) (some w.heap.size) := grown_setRow _ _ _
    have HY6 := Lib.hid (rowG_cells (setRow_heap _ w.heap.size _ (rowX x pl) _ _ HX4.out))
    have HB6 := Lib.hid (own_below HB4.out (Nat.le_refl _) hB6)
    have HO6 := Lib.hid ((HO4.out.grown hB6 (fun k e => by cases e; omega)).mono (show w.heap.size ≤ w.heap.size + 1 by omega))
    clear hB6
    go_wp2_with (first
      | (refine wpList_store_row rfl 25 _ _ rfl w.heap.size (rowX x pl) rfl rfl 25 (rowG ⟨#[]⟩ ⟨#[]⟩ ⟨#[]⟩ 0 0 0 (.slice none 0 0) (.slice none 0 0) (.slice none 0 0)) HX4.out legSize rfl (rowG_one _ _ _ _ _ _ _ _ _ rfl rfl rfl) ?_)
      | fail)
    generalize w4.setRow w.heap.size (rowX x pl) = w6 at *
    obtain ⟨y0, y1, y2, y3, y4, y5, y6, y7, y8, y9⟩ := HY6.out
    (try simp only [Exit.inBlock, Exit.then])
    refine bodyPost_ret (v := .agg (rowX x pl)) ?_ rfl ⟨HB6.out, Or.inr ⟨x, pl, HY2, rfl, HO6.out⟩⟩
    rw [results_cell1 rfl]
    go_simp
end Go.Proofs.YtdaccpffdnbkiaaGreatDoor

namespace Go.Proofs.YtdaccpffdnbkiaaGreatDoor
open Go.RowKit
set_option linter.unusedVariables false
set_option linter.unusedSimpArgs false

/-- The model takes five numbers at most. -/
def nums5 (l : List UInt8) : List Int := ((splitB 44 l).take 5).map numV
theorem nums5_ints {l : List Int} (h0 : 1 ≤ l.length) (h5 : l.length ≤ 5) (h : SmallL l) : nums5 (intsT l) = l := by
  have e : splitB 44 (intsT l) = l.map Lib.itoa := by
    cases l with
    | nil => simp at h0
    | cons x r => rw [intsT, split_tail r _ (itoa_no (by decide))]; rfl
  unfold nums5
  rw [e, List.take_of_length_le (by simpa using h5), List.map_map]
  conv => rhs; rw [← List.map_id l]
  apply List.map_congr_left
  intro x hx
  have := h x hx
  exact numV_itoa this.1 (by omega)
theorem few_bids {x : Leg8} (h : OkLeg (leg8D x)) : x.lb.length ≤ 5 := by
  obtain ⟨-, ⟨b1, b2, b3, b4, b5, b6, b7, b8⟩, -, -⟩ := h
  have m : (leg8D x).nB ≤ 5 := by omega
  exact m
def pieces5 (x0 x1 x2 x3 x4 x5 x6 x7 : ByteArray) : Leg8 := ⟨x0, x1, x2, numV x3.data.toList, numV x4.data.toList, nums5 x5.data.toList, nums5 x6.data.toList, nums5 x7.data.toList⟩
theorem l5_same {s x0 x1 x2 x3 x4 x5 x6 x7 : ByteArray} (hw : [x0, x1, x2, x3, x4, x5, x6, x7].map (·.data.toList) = splitB 32 s.data.toList) {x : Leg8} (h1 : OkLeg (leg8D x)) (h2 : legB (leg8D x) = s) : pieces5 x0 x1 x2 x3 x4 x5 x6 x7 = x := by
  have p := parts_of h1
  have q := few_bids h1
  rw [← h2, split_leg h1] at hw
  simp only [List.map_cons, List.map_nil, List.cons.injEq, and_true] at hw
  obtain ⟨b0, b1, b2, b3, b4, b5, b6, b7⟩ := hw
  have e0 : x0 = x.nm := ByteArray.ext (Array.ext' b0)
  have e1 : x1 = x.fr := ByteArray.ext (Array.ext' b1)
  have e2 : x2 = x.to := ByteArray.ext (Array.ext' b2)
  have l1 := p.nL
  have l2 := p.nS
  have l3 := p.nB
  have d1 := p.dep
  have d2 := p.arr
  unfold pieces5
  rw [b3, b4, b5, b6, b7, numV_itoa d1.1 (by omega), numV_itoa d2.1 (by omega), nums5_ints (by omega) (by omega) p.sL, nums5_ints (by omega) (by omega) p.sS, nums5_ints l3 q p.sB, e0, e1, e2]
theorem l5_yes {s x0 x1 x2 x3 x4 x5 x6 x7 : ByteArray} (hw : [x0, x1, x2, x3, x4, x5, x6, x7].map (·.data.toList) = splitB 32 s.data.toList) {d : LegD} (he : (legO d).toList = s.toList) : OkLeg d ∧ legB d = s := by
  rw [Lib.toList_data, Lib.toList_data] at he
  unfold legO at he
  split at he
  · rename_i q; exact ⟨q, ByteArray.ext (Array.ext' he)⟩
  · have hs : s.data.toList = [] := by rw [← he]
    rw [hs] at hw
    simp [splitB] at hw
theorem l5_no {s x0 x1 x2 x3 x4 x5 x6 x7 : ByteArray} (hw : [x0, x1, x2, x3, x4, x5, x6, x7].map (·.data.toList) = splitB 32 s.data.toList) (hne : (legO (leg8D (pieces5 x0 x1 x2 x3 x4 x5 x6 x7))).toList ≠ s.toList) : ¬ IsLegT s := by
  rintro ⟨x, h1, h2⟩
  rw [l5_same hw h1 h2] at hne
  apply hne
  unfold legO
  rw [if_pos h1, h2]
def accN (ws : List ByteArray) (k : Nat) : List Int := (ws.take k).map fun x => numV x.data.toList
theorem accN_len {ws : List ByteArray} {k : Nat} (h : k ≤ ws.length) : (accN ws k).length = k := by simp [accN]; omega
theorem accN_snoc {ws : List ByteArray} {k : Nat} (h : k < ws.length) : accN ws (k + 1) = accN ws k ++ [numV (ws[k]'h).data.toList] := by
  unfold accN
  rw [List.take_succ_eq_append_getElem h, List.map_append]; rfl
theorem accN_end {ws : List ByteArray} {l : List UInt8} {k : Nat} (hw : ws.map (·.data.toList) = splitB 44 l) (hk : k = ws.length ∧ k ≤ 5 ∨ k = 5) : accN ws k = nums5 l := by
  have e : nums5 l = accN ws 5 := by
    unfold nums5 accN
    rw [← hw, ← List.map_take, List.map_map]; rfl
  rw [e]
  rcases hk with ⟨rfl, h⟩ | rfl
  · unfold accN
    rw [List.take_of_length_le (Nat.le_refl _), List.take_of_length_le h]
  · rfl
theorem cellsI_snoc' (ws : List ByteArray) {k : Nat} (h : k < ws.length) : cellsI (accN ws (k + 1)) = cellsI (accN ws k) ++ [.int .i64 (numV (ws[k]'h).data.toList)] := by
  rw [accN_snoc h, cellsI_snoc]
theorem own_addr {a : Option Addr} {n c g : Nat} (h : (Value.slice a n c).ownBlock = some g) : ∃ o sp, a = some ⟨g, o, sp⟩ := by
  cases a with
  | none => simp [Value.ownBlock] at h
  | some x => obtain ⟨b, o, sp⟩ := x; simp [Value.ownBlock] at h; subst h; exact ⟨o, sp, rfl⟩
def Nums6 (s : ByteArray) (w : World) (e : Ending) (w' : World) : Prop :=
  ∃ (g cap : Nat), e = .returned (.slice (some ⟨g, 0, none⟩) (nums5 s.data.toList).length cap) ∧ w'.ownsRow w.heap.size 3 1 (.slice (some ⟨g, 0, none⟩) (nums5 s.data.toList).length cap) (nums5 s.data.toList).length (cellsI (nums5 s.data.toList)) ∧ 1 ≤ (nums5 s.data.toList).length ∧ (nums5 s.data.toList).length ≤ 5 ∧ Below w.heap.size w w'
set_option maxRecDepth 100000 in
set_option maxHeartbeats 8000000 in
theorem nums6C (s : ByteArray) (w : World) (hs : s.size ≤ 1048576) :
    Calls Tryz.prog 19 #[.string s] w (Nums6 s w) := by
  obtain ⟨i0, hi, hz0, hz1, hz2⟩ := info_parts infoIntR
  go_enter Tryz.func19, Tryz.ntmps19
  go_wp2_with fail
  refine (cut3C 44 44 rfl s w hs).mono ?_
  rintro e w1 ⟨ws, gw, cw, hws, hl1, hl2, hwsz, rfl, hown, hb⟩
  have HWS : Hid (ws.map (·.data.toList) = splitB 44 s.data.toList) := hws
  have HWZ : Hid (∀ x ∈ ws, x.size ≤ s.size) := hwsz
  have hzw1 : w.heap.size ≤ w1.heap.size := hb.size
  have hgw := (hown.lt gw rfl).2
  have hown0 : (w1.alloc (.cells #[] 3)).ownsRow w.heap.size 3 1 (.slice (some ⟨w1.heap.size, 0, none⟩) 0 0) 0 [] := World.ownsRow_made w1 #[] 0 hzw1 (by unfold maxLen; omega) rfl
  have hbA : Below w.heap.size w (w1.alloc (.cells #[] 3)) := hb.alloc hzw1 _
  have hwA := hown.alloc (.cells #[] 3)
  clear hws hwsz hown hb
  go_wp2_with fail
  go_loopw [4, 5] (fun vo vi wr => ∃ (k : Nat) (ao : Option Addr) (co : Nat), k ≤ 5 ∧ k ≤ ws.length ∧ vi = .int .i64 k ∧ vo = .slice ao k co ∧ wr.ownsRow w.heap.size 3 1 (.slice ao k co) k (cellsI (accN ws k)) ∧ wr.ownsRow w.heap.size 9 1 (.slice (some ⟨gw, 0, none⟩) ws.length cw) ws.length (ws.map Value.string) ∧ Hid (∀ g o sp, ao = some ⟨g, o, sp⟩ → g ≠ gw) ∧ Below w.heap.size w wr) (fun _ vi _ => 6 - (intOf vi).toNat)
  case atStart => exact ⟨0, _, _, by omega, by omega, rfl, rfl, hown0, hwA, Lib.hid (by intro g o sp e; cases e; exact Nat.ne_of_gt hgw), hbA⟩
  case round =>
    clear hown0 hwA hbA
    obtain ⟨k, ao, co, hk5, hkw, rfl, rfl, hown, hwr, hne0, hb⟩ := hrel
    have HOW := Lib.hid hown
    have HWR := Lib.hid hwr
    have HNE := Lib.hid hne0
    have HB := Lib.hid hb
    have hzr : w.heap.size ≤ wr.heap.size := hb.size
    clear hown hwr hne0 hb
    by_cases hk : k < ws.length ∧ k ≤ 4
    · obtain ⟨k1, k2⟩ := hk
      have g1 : decide ((k : Int) < (ws.length : Int)) = true := decide_eq_true (by omega)
      have g1n : decide (k < ws.length) = true := decide_eq_true k1
      have g2 : decide ((k : Int) ≤ 4) = true := decide_eq_true (by omega)
      have g2n : decide (k ≤ 4) = true := decide_eq_true k2
      have i1 : (k : Int) < (ws.length : Int) := by omega
      have i0' : (0 : Int) ≤ (k : Int) := by omega
      have y0 : wr.cell? ⟨gw, k, none⟩ = some (.string (ws[k]'k1)) := by
        rw [HWR.out.cellAt k (by omega)]; simp [k1]
      have hxz : (ws[k]'k1).size ≤ s.size := HWZ.out _ (List.getElem_mem k1)
      have hcs := Lib.hid (cellsI_snoc' ws k1)
      generalize ws[k]'k1 = x at *
      have KN := Lib.hid (numAt x wr (by unfold maxLen; omega))
      have e0 : IntKind.i64.wrap ((k : Int) + 1) = (k : Int) + 1 := IntWalk.i64_in _ (by omega)
      go_wp2_with fail
      refine KN.out.mono ?_
      rintro e w2 ⟨n', rfl, hn', -, -, rfl⟩
      have HN := Lib.hid hn'.out
      clear hn' KN y0
      have HA := Lib.hid (HOW.out.alloc (.cells #[.int .i64 n'] 3))
      have HWA := Lib.hid (HWR.out.alloc (.cells #[.int .i64 n'] 3))
      have hX : Hid ((wr.alloc (.cells #[.int .i64 n'] 3)).heap[wr.heap.size]? = some (.cells #[.int .i64 n'] 3 (0, 0))) := heap_alloc_new wr _
      have hzA : w.heap.size ≤ (wr.alloc (.cells #[.int .i64 n'] 3)).heap.size := by simp only [World.size_alloc]; omega
      have HBA := Lib.hid (HB.out.alloc hzr (.cells #[.int .i64 n'] 3))
      have hgwl := (HWA.out.lt gw rfl).2
      go_wp2_with (at_builtin; refine wpList_append_lies _ rfl _ _ 22 rfl w.heap.size 3 i0 (.int .i64 0) 1 8 Tryz.underlying22 hi hz0 hz1 hz2 rfl (by decide) (.slice ao k co) k (cellsI (accN ws k)) rfl HA.out ⟨wr.heap.size, 0, none⟩ 1 1 [.int .i64 n'] rfl rfl (World.news_of_block hX.out) (by intro u hu; simp at hu; subst hu; rfl) (by decide) (by unfold maxLen; omega) (by omega) hzA _ rfl ?_; intro g5 cap5 w5 hown5 hg5 hgg5 hlt5)
      have hV := HA.out.lt
      have hbs : Below w.heap.size (wr.alloc (.cells #[.int .i64 n'] 3)) w5 := (Below.refl _ _).grown hg5 hzA (fun y e => (hV y e).1)
      have HBs := Lib.hid (HBA.out.trans hbs)
      have HO5 : Hid (w5.ownsRow w.heap.size 3 1 (.slice (some ⟨g5, 0, none⟩) (k + 1) cap5) (k + 1) (cellsI (accN ws (k + 1)))) := by
        show World.ownsRow _ _ _ _ _ _ _
        rw [hcs.out, ← HN.out]; exact hown5
      have HW5 := Lib.hid (HWA.out.kept hg5 (Or.inr (by
        intro e
        obtain ⟨o', sp', e'⟩ := own_addr e.symm
        exact HNE.out.out gw o' sp' e' rfl)))
      have HN5 : Hid (∀ g o sp, some (⟨g5, 0, none⟩ : Addr) = some ⟨g, o, sp⟩ → g ≠ gw) := by
        intro g o sp e
        cases e
        rcases hgg5 with h | h
        · obtain ⟨o', sp', e⟩ := own_addr h; exact HNE.out.out g5 o' sp' e
        · omega
      clear hown5 hg5 hgg5 hlt5 hV hbs HA HWA hX HBA HOW HWR
      go_wp2
      go_roundw
      case rel => exact ⟨k + 1, some ⟨g5, 0, none⟩, cap5, by omega, by omega, by go_num, by simp, HO5.out, HW5.out, HN5.out, HBs.out⟩
      case measure => simp [intOf]; omega
    · have hend : Hid (accN ws k = nums5 s.data.toList) := accN_end HWS.out (by omega)
      have hkl : (nums5 s.data.toList).length = k := by rw [← hend.out]; exact accN_len hkw
      have hpos : 1 ≤ k := by omega
      have hfin : Hid (∃ g, ao = some ⟨g, 0, none⟩) := by
        obtain ⟨g, c, e, _, _⟩ := HOW.out.form (by omega)
        obtain ⟨rfl, -, -⟩ : ao = some ⟨g, 0, none⟩ ∧ k = k ∧ co = c := by simpa using e
        exact ⟨g, rfl⟩
      obtain ⟨g, rfl⟩ := hfin.out
      have HPost : Hid (Nums6 s w (.returned (.slice (some ⟨g, 0, none⟩) k co)) wr) := by
        refine ⟨g, co, by rw [hkl], ?_, by omega, by omega, HB.out⟩
        rw [hkl, ← hend.out]; exact HOW.out
      clear hend hfin HOW HWR HB hkl
      rcases Nat.lt_or_ge k ws.length with c | c
      · have g1 : decide ((k : Int) < (ws.length : Int)) = true := decide_eq_true (by omega)
        have g1n : decide (k < ws.length) = true := decide_eq_true c
        have g2 : decide ((k : Int) ≤ 4) = false := decide_eq_false (by omega)
        have g2n : decide (k ≤ 4) = false := decide_eq_false (by omega)
        clear hk
        go_wp2
        go_ret
        exact HPost.out
      · have g1 : decide ((k : Int) < (ws.length : Int)) = false := decide_eq_false (by omega)
        have g1n : decide (k < ws.length) = false := decide_eq_false (by omega)
        clear hk
        go_wp2
        go_ret
        exact HPost.out
end Go.Proofs.YtdaccpffdnbkiaaGreatDoor

namespace Go.Proofs.YtdaccpffdnbkiaaGreatDoor
open Go.RowKit
set_option linter.unusedVariables false
set_option linter.unusedSimpArgs false

def listN (z : Nat → Int) (n : Nat) : List Int := (List.range n).map z
theorem listN_len (z : Nat → Int) (n : Nat) : (listN z n).length = n := by simp [listN]
theorem listN_get (z : Nat → Int) {n i : Nat} (h : i < n) : (listN z n).getD i 0 = z i := by
  simp [listN, List.getD_eq_getElem?_getD, List.getElem?_map, List.getElem?_range h]
/-- What the text of a leg says. -/
def toL8 (d : LegD) : Leg8 := ⟨d.name, d.fr, d.to, d.dep, d.arr, listN d.L d.nL, listN d.S d.nS, listN d.B d.nB⟩
/-- A leg without what is held. -/
def noHold (d : LegD) : LegD := { d with nH := 0, t := fun _ => 0, c := fun _ => 0, s := fun _ => 0 }
theorem numB_list (z : Nat → Int) (n : Nat) : numB (fun i => (listN z n).getD i 0) (listN z n).length = numB z n := by
  have e : wordsN (fun i => (listN z n).getD i 0) (listN z n).length = wordsN z n := by
    rw [listN_len]
    apply List.ext_getElem?
    intro i
    rcases Nat.lt_or_ge i n with h | h
    · rw [wordsN_get _ _ i h, wordsN_get _ _ i h, listN_get z h]
    · rw [List.getElem?_eq_none (by rw [wordsN_len]; exact h), List.getElem?_eq_none (by rw [wordsN_len]; exact h)]
  unfold numB numT
  rw [e]
theorem legB_toL8 (d : LegD) : legB (leg8D (toL8 d)) = legB d := by
  have a := numB_list d.L d.nL
  have b := numB_list d.S d.nS
  have c := numB_list d.B d.nB
  unfold legB legWords
  show (⟨(joinS 32 [d.name, d.fr, d.to, decB d.dep, decB d.arr, numB (fun i => (listN d.L d.nL).getD i 0) (listN d.L d.nL).length, numB (fun i => (listN d.S d.nS).getD i 0) (listN d.S d.nS).length, numB (fun i => (listN d.B d.nB).getD i 0) (listN d.B d.nB).length]).toArray⟩ : ByteArray) = _
  rw [a, b, c]
theorem nums_list {w : World} {a : Option Addr} {n : Nat} {z : Nat → Int} (h : Nums w a n z) : Nums w a (listN z n).length (fun i => (listN z n).getD i 0) := by
  rw [listN_len]
  rcases h with h | ⟨b, off, h1, h2, h3⟩
  · exact Or.inl h
  · exact Or.inr ⟨b, off, h1, h2, fun i hi => by
      rw [h3 i hi]
      show some (Value.int IntKind.i64 (z i)) = some (Value.int IntKind.i64 ((listN z n).getD i 0))
      rw [listN_get z hi]⟩
theorem usedH_pos (c s : Nat → Int) (k : Int) : ∀ n, 0 ≤ usedH c s k n
  | 0 => Int.le_refl _
  | n + 1 => by
    have := usedH_pos c s k n
    simp only [usedH]; split <;> omega
theorem sumS_list (z : Nat → Int) (n k : Nat) : ∀ m, k + m ≤ n → sumS (fun i => (listN z n).getD i 0) k m = sumS z k m
  | 0, _ => rfl
  | m + 1, h => by
    rw [sumS, sumS, sumS_list z n k m (by omega)]
    show _ + (listN z n).getD (k + m) 0 = _
    rw [listN_get z (by omega)]
theorem falls_list {z : Nat → Int} {n m : Nat} {most : Int} (h : Falls z m most) (hm : m ≤ n) : Falls (fun i => (listN z n).getD i 0) m most := by
  intro i hi
  have := h i hi
  rw [show (fun i => (listN z n).getD i 0) i = z i from listN_get z (by omega)]
  by_cases h0 : i = 0
  · subst h0; simpa using this
  · rw [if_neg h0] at this ⊢
    rw [show (fun i => (listN z n).getD i 0) (i - 1) = z (i - 1) from listN_get z (by omega)]
    exact this
/-- Without what is held it is ok, too. -/
theorem ok_toL8 {d : LegD} (h : OkLeg d) : OkLeg (leg8D (toL8 d)) := by
  obtain ⟨hw, ⟨b1, b2, b3, b4, b5, b6, b7, b8⟩, hh, hf⟩ := h
  have e0 : cap8 (listN d.L d.nL) = d.cap := by
    unfold cap8
    rw [listN_get d.L (by omega)]; exact b7
  have n1 : (leg8D (toL8 d)).nL = d.nL := listN_len _ _
  have n2 : (leg8D (toL8 d)).nS = d.nS := listN_len _ _
  have n3 : (leg8D (toL8 d)).nB = d.nB := listN_len _ _
  have n4 : (leg8D (toL8 d)).cap = d.cap := e0
  have s1 : ∀ i, i < 3 → (leg8D (toL8 d)).S i = d.S i := fun i hi => listN_get d.S (by omega)
  have l1 : ∀ i, i < 3 → (leg8D (toL8 d)).L i = d.L i := fun i hi => listN_get d.L (by omega)
  refine ⟨hw, ⟨by rw [n4]; exact b1, by rw [n1]; exact b2, by rw [n2]; exact b3, fun i hi => by rw [s1 i hi, n4]; exact b4 i hi, by rw [n3]; exact b5, by rw [n3]; exact falls_list b6 (Nat.le_refl _), by rw [l1 0 (by omega), n4]; exact b7, by rw [n4]; exact falls_list b8 (by omega)⟩, ⟨Nat.zero_le _, fun i hi => absurd hi (Nat.not_lt_zero _)⟩, fun k hk => ?_⟩
  obtain ⟨f1, f2⟩ := hf k hk
  have u0 : usedB (leg8D (toL8 d)) k = sumS d.S k (3 - k) := by
    show sumS (fun i => (listN d.S d.nS).getD i 0) k (3 - k) + 0 = _
    rw [sumS_list d.S d.nS k (3 - k) (by omega)]; omega
  have hu := usedH_pos d.c d.s k d.nH
  have u1 : usedB d k = sumS d.S k (3 - k) + usedH d.c d.s k d.nH := rfl
  refine ⟨?_, ?_⟩
  · unfold leftB at f1 ⊢
    rw [u0, l1 k hk]
    omega
  · show (0 : Int) ≤ _
    rw [s1 k hk]
    exact (b4 k hk).1
/-- The leg's lists alone. -/
def noP (p : LegP) : LegP := { p with aH := none, cH := 0 }
theorem legIn_toL8 {w : World} {d : LegD} {p : LegP} (h : LegIn w d p) : LegIn w (leg8D (toL8 d)) (noP p) := ⟨nums_list h.1, nums_list h.2.1, nums_list h.2.2.1, Or.inl rfl⟩
theorem legIn_noHold {w : World} {d : LegD} {p : LegP} (h : LegIn w d p) : LegIn w (noHold d) (noP p) := ⟨h.1, h.2.1, h.2.2.1, Or.inl rfl⟩
theorem legV_toL8 {d : LegD} (h : OkLeg d) (p : LegP) : LegV (leg8D (toL8 d)) (noP p) = LegV (noHold d) (noP p) := by
  have e0 : cap8 (listN d.L d.nL) = d.cap := by
    unfold cap8
    rw [listN_get d.L (by have := h.2.1.2.1; omega)]; exact h.2.1.2.2.2.2.2.2.1
  have n1 : (listN d.L d.nL).length = d.nL := listN_len _ _
  have n2 : (listN d.S d.nS).length = d.nS := listN_len _ _
  have n3 : (listN d.B d.nB).length = d.nB := listN_len _ _
  show Value.agg #[.string d.name, .string d.fr, .string d.to, .int .i64 d.dep, .int .i64 d.arr, .int .i64 (cap8 (listN d.L d.nL)), .slice p.aL (listN d.L d.nL).length p.cL, .slice p.aS (listN d.S d.nS).length p.cS, .slice p.aB (listN d.B d.nB).length p.cB, .slice none 0 0] = _
  rw [e0, n1, n2, n3]; rfl
/-- What is ok is ok without what is held, and has the same text. -/
theorem ok_noHold {d : LegD} (h : OkLeg d) : OkLeg (noHold d) := by
  obtain ⟨hw, hs, hh, hf⟩ := h
  refine ⟨hw, hs, ⟨Nat.zero_le _, fun i hi => absurd hi (Nat.not_lt_zero _)⟩, fun k hk => ?_⟩
  obtain ⟨f1, f2⟩ := hf k hk
  have hu := usedH_pos d.c d.s k d.nH
  have u1 : usedB d k = sumS d.S k (3 - k) + usedH d.c d.s k d.nH := rfl
  have u0 : usedB (noHold d) k = sumS d.S k (3 - k) + 0 := rfl
  refine ⟨?_, ?_⟩
  · unfold leftB at f1 ⊢
    rw [u0]
    show 0 ≤ d.L k - _
    omega
  · show (0 : Int) ≤ d.S k
    exact (hs.2.2.2.1 k hk).1
theorem legB_noHold (d : LegD) : legB (noHold d) = legB d := rfl
end Go.Proofs.YtdaccpffdnbkiaaGreatDoor
