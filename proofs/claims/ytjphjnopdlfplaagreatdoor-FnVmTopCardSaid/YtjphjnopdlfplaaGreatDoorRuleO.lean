/-
  A copy of a rule whose kids and marks lie in rows of one's own: the model's l4Copy.
-/
import Derived.Test.YtjphjnopdlfplaaGreatDoorJ21
import Derived.Test.YtjphjnopdlfplaaGreatDoorDrawRuleN
import Derived.Test.YtjphjnopdlfplaaGreatDoorJ15
import Derived.Test.YtjphjnopdlfplaaGreatDoorAppSrc
import Derived.Deep.DeepMust
import Derived.Deep.RegionWith
import Derived.Deep.RegionLaw
import Derived.Deep.AppendLies
namespace Go.Proofs.YtjphjnopdlfplaaGreatDoor
open Go.RowKit
set_option linter.unusedVariables false
set_option linter.unusedSimpArgs false

theorem own_B {w : World} {B B' : Nat} {e : TypeId} {z : Nat} {v : Value} {n : Nat} {xs : List Value} (h : w.ownsRow B e z v n xs) (hB : B' ≤ B) : w.ownsRow B' e z v n xs :=
  ⟨h.1, h.2.imp id fun ⟨g, cap, cur, q1, q2, q3⟩ => ⟨g, cap, cur, q1, Nat.le_trans hB q2, q3⟩⟩
/-- Kids in a row of one's own, marks in one, the kids behind the marks. -/
def TopO (B C : Nat) (w : World) (f : Fld) (ks : List Tr) (ms : List (Int × Int)) : Prop :=
  B ≤ C ∧ KidsO C w (.slice f.ka f.kl f.kc) ks ∧ w.ownsRow B 117 2 (.slice f.ma f.ml f.mc) ms.length (cellsM ms) ∧ ∀ g, (Value.slice f.ma f.ml f.mc).ownBlock = some g → g < C
theorem marksN_own {B : Nat} {w : World} {a : Option Addr} {n c : Nat} {ms : List (Int × Int)} (h : w.ownsRow B 117 2 (.slice a n c) ms.length (cellsM ms)) : n ≤ c ∧ MarksN (fun x => B ≤ x) w a n ms := by
  have hc := own_cap h
  rcases h.2 with ⟨e, e0⟩ | ⟨g, cap, cur, e, hg, hh, -⟩
  · injection e with e1 e2 e3
    subst e1 e2
    exact ⟨hc, e0.symm, Or.inl rfl⟩
  · injection e with e1 e2 e3
    subst e1 e2 e3
    have hgl := (h.lt g rfl).2
    refine ⟨hc, rfl, Or.inr ⟨g, 0, rfl, hg, hgl, fun i hi => ?_⟩⟩
    obtain ⟨c0, c1⟩ := cellsM_at ms i hi
    have e : ms.getD i (0, 0) = ms[i] := by simp [hi]
    rw [Nat.zero_add, e, h.cellAt (i * 2) (by omega), h.cellAt (i * 2 + 1) (by omega)]
    exact ⟨c0, c1⟩
theorem TopO.tr {B C : Nat} {w : World} {f : Fld} {ks : List Tr} {ms : List (Int × Int)} (h : TopO B C w f ks ms) : TrF (fun x => B ≤ x) w (.node f.op f.num f.name ks ms) f := by
  obtain ⟨h1, h2, h3, h4⟩ := h
  obtain ⟨e1, e2, e3⟩ := h2.rows
  obtain ⟨m1, m2⟩ := marksN_own h3
  refine trF_iff.2 ⟨rfl, rfl, rfl, m2, ?_, e2, m1⟩
  rw [e1]
  obtain ⟨-, hr⟩ := e3
  exact ⟨rfl, hr.imp id fun ⟨b, off, k1, k2, k3, k4⟩ => ⟨b, off, k1, Nat.le_trans h1 k2, k3, RowF.mono (fun x hx => Nat.le_trans h1 hx) b off ks 0 k4⟩⟩
def CopyOP (o n : Int) (s : ByteArray) (ks : List Tr) (ms : List (Int × Int)) (w : World) (e : Ending) (w' : World) : Prop :=
  ∃ (f : Fld) (C : Nat), e = .returned f.val ∧ f.op = o ∧ f.num = n ∧ f.name = s ∧ TopO w.heap.size C w' f ks ms ∧ Below w.heap.size w w'
def CopyAtO (t : Tr) : Prop := ∀ (f : Fld) (w : World), TrF All w t f → szT t ≤ 100000 → Calls Tryz.prog 100 #[f.val] w (CopyOP t.op t.num t.name t.kids t.marks w)
theorem own_slice {w : World} {B : Nat} {e : TypeId} {z : Nat} {v : Value} {n : Nat} {xs : List Value} (h : w.ownsRow B e z v n xs) : ∃ a c, v = .slice a n c := by
  rcases h.2 with ⟨h, h0⟩ | ⟨g, cap, cur, h, -⟩
  · exact ⟨none, 0, by rw [h, h0]⟩
  · exact ⟨_, _, h⟩
theorem marksN_src {N : Nat → Prop} {w : World} {a : Option Addr} {ms : List (Int × Int)} (h : MarksN N w a ms.length ms) : Src w a ms.length 2 (cellsM ms) := by
  refine ⟨cellsM_len ms, fun h0 => ?_⟩
  rcases h.2 with h1 | ⟨b, off, rfl, -, -, hc⟩
  · omega
  refine ⟨_, rfl, fun j u hj => ?_⟩
  have hjl := (List.getElem?_eq_some_iff.1 hj).1
  rw [cellsM_len] at hjl
  have hi : j / 2 < ms.length := by omega
  have eg : ms.getD (j / 2) (0, 0) = ms[j / 2] := by simp [hi]
  obtain ⟨c0, c1⟩ := hc (j / 2) hi
  rw [eg] at c0 c1
  obtain ⟨m0, m1⟩ := cellsM_at ms (j / 2) hi
  have e : (⟨b, off, none⟩ : Addr).add j = ⟨b, off + j, none⟩ := by by_cases h0 : j = 0 <;> simp [Addr.add, h0]
  rw [e]
  have hm : j % 2 = 0 ∨ j % 2 = 1 := by omega
  rcases hm with hm | hm
  · rw [show off + j = off + j / 2 * 2 by omega, c0, ← m0, show j / 2 * 2 = j by omega]; exact hj
  · rw [show off + j = off + j / 2 * 2 + 1 by omega, c1, ← m1, show j / 2 * 2 + 1 = j by omega]; exact hj
theorem cellsM_one (ms : List (Int × Int)) : ∀ u ∈ cellsM ms, u.oneCell' = true := by
  intro u hu
  simp only [cellsM, List.mem_flatMap, List.mem_cons, List.not_mem_nil, or_false] at hu
  obtain ⟨m, -, rfl | rfl⟩ := hu <;> rfl
theorem node_eta (t : Tr) : Tr.node t.op t.num t.name t.kids t.marks = t := by cases t; rfl
theorem copy_next {X C : Nat} {w6 wr w3 w5 : World} {a : Option Addr} {k c : Nat} {ts : List Tr} {fs : List Fld} {t : Tr} {f : Fld} {g cap : Nat} {o n : Int} {s : ByteArray} {vm : Value}
    (hk : k = ts.length) (ht3 : TrF (fun x => wr.heap.size ≤ x) w3 t f) (hB : Below wr.heap.size wr w3) (hXC : X < C) (hC : C ≤ w6.heap.size) (hG : w6.grownBy wr (some X)) (hX : wr.heap[X]? = some (.cells #[.int .i64 o, .int .i64 n, .string s, .slice a k c, vm] 39 (0, 0)))
    (hfl : fs.length = ts.length) (ho : wr.ownsRow C 39 5 (.slice a k c) ts.length (rowsR fs)) (ht : ∀ j, (h : j < ts.length) → ∃ f, fs[j]? = some f ∧ TrF (fun x => C ≤ x ∧ (Value.slice a k c).ownBlock ≠ some x) wr ts[j] f)
    (hown : w5.ownsRow C 39 5 (.slice (some ⟨g, 0, none⟩) (ts.length + 1) cap) (ts.length + 1) (rowsR fs ++ rowR f))
    (hgr : (w3.alloc (.cells #[.int .i64 f.op, .int .i64 f.num, .string f.name, .slice f.ka f.kl f.kc, .slice f.ma f.ml f.mc] 39)).grownBy w5 (Value.slice a k c).ownBlock) (hat : (Value.slice a k c).ownBlock = some g ∨ g = w3.heap.size + 1) (hCown : ∀ g, (Value.slice a k c).ownBlock = some g → w6.heap.size ≤ g) :
    (w5.setCell ⟨X, 3, none⟩ (.slice (some ⟨g, 0, none⟩) (k + 1) cap)).heap[X]? = some (.cells #[.int .i64 o, .int .i64 n, .string s, .slice (some ⟨g, 0, none⟩) (k + 1) cap, vm] 39 (0, 0)) ∧
    KidsO C (w5.setCell ⟨X, 3, none⟩ (.slice (some ⟨g, 0, none⟩) (k + 1) cap)) (.slice (some ⟨g, 0, none⟩) (k + 1) cap) (ts ++ [t]) ∧
    w6.grownBy (w5.setCell ⟨X, 3, none⟩ (.slice (some ⟨g, 0, none⟩) (k + 1) cap)) (some X) ∧ w6.heap.size ≤ g := by
  subst hk
  have hgl : ∀ g, (Value.slice a ts.length c).ownBlock = some g → C ≤ g ∧ g < wr.heap.size := fun g e => ho.lt g e
  have hXr := (Array.getElem?_eq_some_iff.1 hX).1
  have hsz3 : wr.heap.size ≤ w3.heap.size := hB.size
  have hsA : (w3.alloc (.cells #[.int .i64 f.op, .int .i64 f.num, .string f.name, .slice f.ka f.kl f.kc, .slice f.ma f.ml f.mc] 39)).heap.size = w3.heap.size + 1 := by simp only [World.size_alloc]
  have hBA : Below w3.heap.size w3 (w3.alloc (.cells #[.int .i64 f.op, .int .i64 f.num, .string f.name, .slice f.ka f.kl f.kc, .slice f.ma f.ml f.mc] 39)) := (Below.refl _ _).alloc (Nat.le_refl _) _
  generalize (w3.alloc (.cells #[.int .i64 f.op, .int .i64 f.num, .string f.name, .slice f.ka f.kl f.kc, .slice f.ma f.ml f.mc] 39)) = wA at *
  have hBW : Below wr.heap.size wr wA := hB.trans (hBA.mono hsz3)
  have hX5 : w5.heap[X]? = some (.cells #[.int .i64 o, .int .i64 n, .string s, .slice a ts.length c, vm] 39 (0, 0)) := (hgr.block X (by omega) (fun e => by have := (hgl X e.symm).1; omega)).trans ((hBW.block X hXr).trans hX)
  have hX6 : (w5.setCell ⟨X, 3, none⟩ (.slice (some ⟨g, 0, none⟩) (ts.length + 1) cap)).heap[X]? = some (.cells #[.int .i64 o, .int .i64 n, .string s, .slice (some ⟨g, 0, none⟩) (ts.length + 1) cap, vm] 39 (0, 0)) := by simp [World.setCell, Array.getElem?_modify, hX5]
  have gS := grown_set w5 ⟨X, 3, none⟩ (.slice (some ⟨g, 0, none⟩) (ts.length + 1) cap)
  generalize (w5.setCell ⟨X, 3, none⟩ (.slice (some ⟨g, 0, none⟩) (ts.length + 1) cap)) = W6 at *
  have htl : (ts ++ [t]).length = ts.length + 1 := by simp
  refine ⟨hX6, ?_, ?_, ?_⟩
  · have hv : ∀ j, (h : j < ts.length) → ∃ f, fs[j]? = some f ∧ TrF (fun x => C ≤ x ∧ (Value.slice a ts.length c).ownBlock ≠ some x) wA ts[j] f := fun j hj => by
      obtain ⟨f', e, k⟩ := ht j hj
      exact ⟨f', e, k.kept (same_of_below hBW)⟩
    have hsr := hG.size
    have hnew : TrF (fun x => C ≤ x ∧ (Value.slice a ts.length c).ownBlock ≠ some x) wA t f := TrF.mono (fun y hy => ⟨by omega, fun e => by have := (hgl y e).2; omega⟩) _ _ (ht3.kept (same_of_below hBA))
    have := KidsO.snoc hfl (own_rowKept (row := none) ho (grown_any hBW) (fun b e => by cases e)) hv hnew hown hgr (by rw [hsA]; exact hat)
    rw [htl] at this
    exact this.kept gS (fun b e => by injection e with e; have : X = b := e; omega)
  · have g2 : w6.grownBy wA (some X) := grown_trans hG (grown_any hBW)
    have g3 : w6.grownBy w5 (some X) := grown_own g2 hgr (fun g e => .inl (hCown g e))
    exact grown_trans g3 gS
  · have hsr := hG.size
    rcases hat with e | e
    · exact hCown g e
    · omega
set_option maxRecDepth 100000 in
set_option maxHeartbeats 16000000 in
theorem copyNode (o n : Int) (s : ByteArray) (ks : List Tr) (ms : List (Int × Int)) (ih : ∀ t ∈ ks, CopyAtO t) : CopyAtO (.node o n s ks ms) := by
  obtain ⟨i0, hi, hz0, hz1, hz2⟩ := info_parts infoRuleK
  obtain ⟨j0, hj, hy0, hy1, hy2⟩ := info_parts infoMark
  intro f w h hsz
  rw [szT] at hsz
  obtain ⟨e1, e2, e3, hm, hk, hc1, hc2⟩ := trF_iff.1 h
  obtain ⟨fo, fn, fs0, ka, kl, kc, ma, ml, mc⟩ := f
  dsimp only at e1 e2 e3 hm hk hc1 hc2
  have q1 := e1.symm
  have q2 := e2.symm
  have q3 := e3.symm
  clear e1 e2 e3
  subst q1 q2 q3
  obtain rfl := hk.1
  obtain rfl := hm.1
  have hkl : ks.length ≤ 100000 := by omega
  have hml : ms.length ≤ 100000 := by omega
  have hszL : ∀ k, (h : k < ks.length) → szT ks[k] ≤ 100000 := fun k h => by have := szL_mem (List.getElem_mem h); omega
  have HSZ := Lib.hid hszL
  have HK := Lib.hid hk
  have HM := Lib.hid hm
  have IH := Lib.hid ih
  clear h hk hm hc1 hc2 ih hszL hsz
  unfold Fld.val
  dsimp only [Tr.op, Tr.num, Tr.name, Tr.kids, Tr.marks]
  have hA : (((w.alloc (.cells #[.int .i64 o, .int .i64 n, .string s, .slice ka ks.length kc, .slice ma ms.length mc] 39)).alloc (.cells #[.int .i64 0, .int .i64 0, .string ⟨#[]⟩, .slice none 0 0, .slice none 0 0] 39)).alloc (.cells #[.int .i64 0, .int .i64 0, .string ⟨#[]⟩, .slice none 0 0, .slice none 0 0] 39)).heap[w.heap.size]? = some (.cells #[.int .i64 o, .int .i64 n, .string s, .slice ka ks.length kc, .slice ma ms.length mc] 39 (0, 0)) := by
    rw [Lib.alloc_old _ _ _ (by simp only [World.size_alloc]; omega), Lib.alloc_old _ _ _ (by simp only [World.size_alloc]; omega)]
    exact heap_alloc_new w _
  have hO : (((w.alloc (.cells #[.int .i64 o, .int .i64 n, .string s, .slice ka ks.length kc, .slice ma ms.length mc] 39)).alloc (.cells #[.int .i64 0, .int .i64 0, .string ⟨#[]⟩, .slice none 0 0, .slice none 0 0] 39)).alloc (.cells #[.int .i64 0, .int .i64 0, .string ⟨#[]⟩, .slice none 0 0, .slice none 0 0] 39)).heap[w.heap.size + 1]? = some (.cells #[.int .i64 0, .int .i64 0, .string ⟨#[]⟩, .slice none 0 0, .slice none 0 0] 39 (0, 0)) := by
    rw [Lib.alloc_old _ _ _ (by simp only [World.size_alloc]; omega)]
    have := heap_alloc_new (w.alloc (.cells #[.int .i64 o, .int .i64 n, .string s, .slice ka ks.length kc, .slice ma ms.length mc] 39)) (.cells #[.int .i64 0, .int .i64 0, .string ⟨#[]⟩, .slice none 0 0, .slice none 0 0] 39)
    simpa only [World.size_alloc] using this
  have hX : (((w.alloc (.cells #[.int .i64 o, .int .i64 n, .string s, .slice ka ks.length kc, .slice ma ms.length mc] 39)).alloc (.cells #[.int .i64 0, .int .i64 0, .string ⟨#[]⟩, .slice none 0 0, .slice none 0 0] 39)).alloc (.cells #[.int .i64 0, .int .i64 0, .string ⟨#[]⟩, .slice none 0 0, .slice none 0 0] 39)).heap[w.heap.size + 1 + 1]? = some (.cells #[.int .i64 0, .int .i64 0, .string ⟨#[]⟩, .slice none 0 0, .slice none 0 0] 39 (0, 0)) := by
    have := heap_alloc_new ((w.alloc (.cells #[.int .i64 o, .int .i64 n, .string s, .slice ka ks.length kc, .slice ma ms.length mc] 39)).alloc (.cells #[.int .i64 0, .int .i64 0, .string ⟨#[]⟩, .slice none 0 0, .slice none 0 0] 39)) (.cells #[.int .i64 0, .int .i64 0, .string ⟨#[]⟩, .slice none 0 0, .slice none 0 0] 39)
    simpa only [World.size_alloc] using this
  have hB : Below w.heap.size w (((w.alloc (.cells #[.int .i64 o, .int .i64 n, .string s, .slice ka ks.length kc, .slice ma ms.length mc] 39)).alloc (.cells #[.int .i64 0, .int .i64 0, .string ⟨#[]⟩, .slice none 0 0, .slice none 0 0] 39)).alloc (.cells #[.int .i64 0, .int .i64 0, .string ⟨#[]⟩, .slice none 0 0, .slice none 0 0] 39)) := (((Below.refl _ _).alloc (Nat.le_refl _) _).alloc (by simp only [World.size_alloc]; omega) _).alloc (by simp only [World.size_alloc]; omega) _
  have HX := Lib.hid hX
  have hX2 := setRow_heap (((w.alloc (.cells #[.int .i64 o, .int .i64 n, .string s, .slice ka ks.length kc, .slice ma ms.length mc] 39)).alloc (.cells #[.int .i64 0, .int .i64 0, .string ⟨#[]⟩, .slice none 0 0, .slice none 0 0] 39)).alloc (.cells #[.int .i64 0, .int .i64 0, .string ⟨#[]⟩, .slice none 0 0, .slice none 0 0] 39)) (w.heap.size + 1 + 1) _ (#[.int .i64 o, .int .i64 n, .string s, .slice ka ks.length kc, .slice ma ms.length mc]) _ _ hX
  have gX2 := grown_setRowT (((w.alloc (.cells #[.int .i64 o, .int .i64 n, .string s, .slice ka ks.length kc, .slice ma ms.length mc] 39)).alloc (.cells #[.int .i64 0, .int .i64 0, .string ⟨#[]⟩, .slice none 0 0, .slice none 0 0] 39)).alloc (.cells #[.int .i64 0, .int .i64 0, .string ⟨#[]⟩, .slice none 0 0, .slice none 0 0] 39)) (w.heap.size + 1 + 1) (#[.int .i64 o, .int .i64 n, .string s, .slice ka ks.length kc, .slice ma ms.length mc])
  have hA2 := (gX2.block w.heap.size (lt_heapT hA) (by intro e; simp at e; omega)).trans hA
  have hO2 := (gX2.block (w.heap.size + 1) (lt_heapT hO) (by intro e; simp at e)).trans hO
  have hB2 : Below w.heap.size w ((((w.alloc (.cells #[.int .i64 o, .int .i64 n, .string s, .slice ka ks.length kc, .slice ma ms.length mc] 39)).alloc (.cells #[.int .i64 0, .int .i64 0, .string ⟨#[]⟩, .slice none 0 0, .slice none 0 0] 39)).alloc (.cells #[.int .i64 0, .int .i64 0, .string ⟨#[]⟩, .slice none 0 0, .slice none 0 0] 39)).setRow (w.heap.size + 1 + 1) #[.int .i64 o, .int .i64 n, .string s, .slice ka ks.length kc, .slice ma ms.length mc]) := hB.grown gX2 (by simp only [World.size_alloc]; omega) (fun k e => by cases e; omega)
  have hs2 : ((((w.alloc (.cells #[.int .i64 o, .int .i64 n, .string s, .slice ka ks.length kc, .slice ma ms.length mc] 39)).alloc (.cells #[.int .i64 0, .int .i64 0, .string ⟨#[]⟩, .slice none 0 0, .slice none 0 0] 39)).alloc (.cells #[.int .i64 0, .int .i64 0, .string ⟨#[]⟩, .slice none 0 0, .slice none 0 0] 39)).setRow (w.heap.size + 1 + 1) #[.int .i64 o, .int .i64 n, .string s, .slice ka ks.length kc, .slice ma ms.length mc]).heap.size = w.heap.size + 3 := by simp [World.size_alloc]
  have HA2 := Lib.hid hA2
  have HO2 := Lib.hid hO2
  have HX2 := Lib.hid hX2
  have HB2 := Lib.hid hB2
  have HS2 := Lib.hid hs2
  clear hA hO hB hX hX2 gX2 hA2 hO2 hB2 hs2
  have xa0 : (((w.alloc (.cells #[.int .i64 o, .int .i64 n, .string s, .slice ka ks.length kc, .slice ma ms.length mc] 39)).alloc (.cells #[.int .i64 0, .int .i64 0, .string ⟨#[]⟩, .slice none 0 0, .slice none 0 0] 39)).alloc (.cells #[.int .i64 0, .int .i64 0, .string ⟨#[]⟩, .slice none 0 0, .slice none 0 0] 39)).cell? ⟨w.heap.size, 0, none⟩ = some (.int .i64 o) := by rw [Lib.cell_of_heap (b := w.heap.size) (by rw [Lib.alloc_old _ _ _ (by simp only [World.size_alloc]; omega), Lib.alloc_old _ _ _ (by simp only [World.size_alloc]; omega)]; exact heap_alloc_new w _)]; rfl
  have gE : Below ((((w.alloc (.cells #[.int .i64 o, .int .i64 n, .string s, .slice ka ks.length kc, .slice ma ms.length mc] 39)).alloc (.cells #[.int .i64 0, .int .i64 0, .string ⟨#[]⟩, .slice none 0 0, .slice none 0 0] 39)).alloc (.cells #[.int .i64 0, .int .i64 0, .string ⟨#[]⟩, .slice none 0 0, .slice none 0 0] 39)).setRow (w.heap.size + 1 + 1) #[.int .i64 o, .int .i64 n, .string s, .slice ka ks.length kc, .slice ma ms.length mc]).heap.size ((((w.alloc (.cells #[.int .i64 o, .int .i64 n, .string s, .slice ka ks.length kc, .slice ma ms.length mc] 39)).alloc (.cells #[.int .i64 0, .int .i64 0, .string ⟨#[]⟩, .slice none 0 0, .slice none 0 0] 39)).alloc (.cells #[.int .i64 0, .int .i64 0, .string ⟨#[]⟩, .slice none 0 0, .slice none 0 0] 39)).setRow (w.heap.size + 1 + 1) #[.int .i64 o, .int .i64 n, .string s, .slice ka ks.length kc, .slice ma ms.length mc]) (((((w.alloc (.cells #[.int .i64 o, .int .i64 n, .string s, .slice ka ks.length kc, .slice ma ms.length mc] 39)).alloc (.cells #[.int .i64 0, .int .i64 0, .string ⟨#[]⟩, .slice none 0 0, .slice none 0 0] 39)).alloc (.cells #[.int .i64 0, .int .i64 0, .string ⟨#[]⟩, .slice none 0 0, .slice none 0 0] 39)).setRow (w.heap.size + 1 + 1) #[.int .i64 o, .int .i64 n, .string s, .slice ka ks.length kc, .slice ma ms.length mc]).alloc (.cells #[] 117)) := (Below.refl _ _).alloc (Nat.le_refl _) _
  have hAE := (gE.block _ (lt_heapT HA2.out)).trans HA2.out
  have hOE := (gE.block _ (lt_heapT HO2.out)).trans HO2.out
  have hXE := (gE.block _ (lt_heapT HX2.out)).trans HX2.out
  have hBE : Below w.heap.size w (((((w.alloc (.cells #[.int .i64 o, .int .i64 n, .string s, .slice ka ks.length kc, .slice ma ms.length mc] 39)).alloc (.cells #[.int .i64 0, .int .i64 0, .string ⟨#[]⟩, .slice none 0 0, .slice none 0 0] 39)).alloc (.cells #[.int .i64 0, .int .i64 0, .string ⟨#[]⟩, .slice none 0 0, .slice none 0 0] 39)).setRow (w.heap.size + 1 + 1) #[.int .i64 o, .int .i64 n, .string s, .slice ka ks.length kc, .slice ma ms.length mc]).alloc (.cells #[] 117)) := HB2.out.trans (gE.mono (by have := HS2.out; omega))
  have ca4 : (((((w.alloc (.cells #[.int .i64 o, .int .i64 n, .string s, .slice ka ks.length kc, .slice ma ms.length mc] 39)).alloc (.cells #[.int .i64 0, .int .i64 0, .string ⟨#[]⟩, .slice none 0 0, .slice none 0 0] 39)).alloc (.cells #[.int .i64 0, .int .i64 0, .string ⟨#[]⟩, .slice none 0 0, .slice none 0 0] 39)).setRow (w.heap.size + 1 + 1) #[.int .i64 o, .int .i64 n, .string s, .slice ka ks.length kc, .slice ma ms.length mc]).alloc (.cells #[] 117)).cell? ⟨w.heap.size, 4, none⟩ = some (.slice ma ms.length mc) := by rw [Lib.cell_of_heap hAE]; rfl
  have hownE : (((((w.alloc (.cells #[.int .i64 o, .int .i64 n, .string s, .slice ka ks.length kc, .slice ma ms.length mc] 39)).alloc (.cells #[.int .i64 0, .int .i64 0, .string ⟨#[]⟩, .slice none 0 0, .slice none 0 0] 39)).alloc (.cells #[.int .i64 0, .int .i64 0, .string ⟨#[]⟩, .slice none 0 0, .slice none 0 0] 39)).setRow (w.heap.size + 1 + 1) #[.int .i64 o, .int .i64 n, .string s, .slice ka ks.length kc, .slice ma ms.length mc]).alloc (.cells #[] 117)).ownsRow w.heap.size 117 2 (.slice (some ⟨w.heap.size + 1 + 1 + 1, 0, none⟩) 0 0) 0 [] := by
    have := World.ownsRow_made (base := w.heap.size) (e := 117) (size := 2) ((((w.alloc (.cells #[.int .i64 o, .int .i64 n, .string s, .slice ka ks.length kc, .slice ma ms.length mc] 39)).alloc (.cells #[.int .i64 0, .int .i64 0, .string ⟨#[]⟩, .slice none 0 0, .slice none 0 0] 39)).alloc (.cells #[.int .i64 0, .int .i64 0, .string ⟨#[]⟩, .slice none 0 0, .slice none 0 0] 39)).setRow (w.heap.size + 1 + 1) #[.int .i64 o, .int .i64 n, .string s, .slice ka ks.length kc, .slice ma ms.length mc]) #[] 0 (by have := HS2.out; omega) (by unfold maxLen; omega) rfl
    have e3 : ((((w.alloc (.cells #[.int .i64 o, .int .i64 n, .string s, .slice ka ks.length kc, .slice ma ms.length mc] 39)).alloc (.cells #[.int .i64 0, .int .i64 0, .string ⟨#[]⟩, .slice none 0 0, .slice none 0 0] 39)).alloc (.cells #[.int .i64 0, .int .i64 0, .string ⟨#[]⟩, .slice none 0 0, .slice none 0 0] 39)).setRow (w.heap.size + 1 + 1) #[.int .i64 o, .int .i64 n, .string s, .slice ka ks.length kc, .slice ma ms.length mc]).heap.size = w.heap.size + 1 + 1 + 1 := HS2.out
    rw [e3] at this
    exact this
  have hsE : (((((w.alloc (.cells #[.int .i64 o, .int .i64 n, .string s, .slice ka ks.length kc, .slice ma ms.length mc] 39)).alloc (.cells #[.int .i64 0, .int .i64 0, .string ⟨#[]⟩, .slice none 0 0, .slice none 0 0] 39)).alloc (.cells #[.int .i64 0, .int .i64 0, .string ⟨#[]⟩, .slice none 0 0, .slice none 0 0] 39)).setRow (w.heap.size + 1 + 1) #[.int .i64 o, .int .i64 n, .string s, .slice ka ks.length kc, .slice ma ms.length mc]).alloc (.cells #[] 117)).heap.size = w.heap.size + 4 := by rw [World.size_alloc, HS2.out]
  have HSRC := Lib.hid (marksN_src (HM.out.kept (same_of_below (N := All) hBE)))
  have HOWE := Lib.hid hownE
  have HAE := Lib.hid hAE
  have HOE := Lib.hid hOE
  have HXE := Lib.hid hXE
  have HBE := Lib.hid hBE
  clear gE hAE hOE hXE hBE hownE xa0
  go_enter Tryz.func100, Tryz.ntmps100
  go_wp2_with (first
    | (refine wpList_store_row rfl 39 _ _ rfl (w.heap.size + 1 + 1) #[.int .i64 o, .int .i64 n, .string s, .slice ka ks.length kc, .slice ma ms.length mc] rfl rfl 39 #[.int .i64 0, .int .i64 0, .string ⟨#[]⟩, .slice none 0 0, .slice none 0 0] HX.out ruleSize rfl (by simp [Value.oneCell']) ?_)
    | (refine wpList_append_src rfl _ _ 37 rfl w.heap.size 117 j0 (.agg #[.int .i64 0, .int .i64 0]) 2 16 Tryz.underlying37 hj hy0 hy1 hy2 rfl (by decide) (.slice (some ⟨w.heap.size + 1 + 1 + 1, 0, none⟩) 0 0) 0 [] rfl HOWE.out ma ms.length mc (cellsM ms) rfl HSRC.out (cellsM_one ms) (by unfold maxLen; omega) (by omega) (by rw [hsE]; omega) ?_; intro v5 w5 hown5 hgrow5 hat5; rw [Nat.zero_add, List.nil_append] at hown5; obtain ⟨a5, c5, rfl⟩ := own_slice hown5; have hX5 := (hgrow5.block (w.heap.size + 1 + 1) (by rw [hsE]; omega) (by simp [Value.ownBlock])).trans HXE.out; have cX4 : w5.cell? ⟨w.heap.size + 1 + 1, 4, none⟩ = some (.slice ma ms.length mc) := (by rw [Lib.cell_of_heap hX5]; rfl); have cX3 : w5.cell? ⟨w.heap.size + 1 + 1, 3, none⟩ = some (.slice ka ks.length kc) := (by rw [Lib.cell_of_heap hX5]; rfl); have fX4 : w5.frozen? ⟨w.heap.size + 1 + 1, 4, none⟩ = false := Lib.frozen_of_heap hX5 4; have fX3 : w5.frozen? ⟨w.heap.size + 1 + 1, 3, none⟩ = false := Lib.frozen_of_heap hX5 3)
    | fail)
  have hX6 : ((w5.setCell ⟨w.heap.size + 1 + 1, 4, none⟩ (.slice a5 ms.length c5)).setCell ⟨w.heap.size + 1 + 1, 3, none⟩ (.slice none 0 0)).heap[w.heap.size + 1 + 1]? = some (.cells #[.int .i64 o, .int .i64 n, .string s, .slice none 0 0, .slice a5 ms.length c5] 39 (0, 0)) := by simp [World.setCell, Array.getElem?_modify, hX5]
  have gS := grown_trans (grown_set w5 ⟨w.heap.size + 1 + 1, 4, none⟩ (.slice a5 ms.length c5)) (grown_set (w5.setCell ⟨w.heap.size + 1 + 1, 4, none⟩ (.slice a5 ms.length c5)) ⟨w.heap.size + 1 + 1, 3, none⟩ (.slice none 0 0))
  generalize ((w5.setCell ⟨w.heap.size + 1 + 1, 4, none⟩ (.slice a5 ms.length c5)).setCell ⟨w.heap.size + 1 + 1, 3, none⟩ (.slice none 0 0)) = w6 at *
  have hs5 : w.heap.size + 4 ≤ w5.heap.size := by rw [← hsE]; exact hgrow5.size
  have hgrow5' : (((((w.alloc (.cells #[.int .i64 o, .int .i64 n, .string s, .slice ka ks.length kc, .slice ma ms.length mc] 39)).alloc (.cells #[.int .i64 0, .int .i64 0, .string ⟨#[]⟩, .slice none 0 0, .slice none 0 0] 39)).alloc (.cells #[.int .i64 0, .int .i64 0, .string ⟨#[]⟩, .slice none 0 0, .slice none 0 0] 39)).setRow (w.heap.size + 1 + 1) #[.int .i64 o, .int .i64 n, .string s, .slice ka ks.length kc, .slice ma ms.length mc]).alloc (.cells #[] 117)).grownBy w5 (some (w.heap.size + 1 + 1 + 1)) := by simpa [Value.ownBlock] using hgrow5
  have hA6 := (gS.block w.heap.size (by omega) (by intro e; simp at e; try omega)).trans ((hgrow5'.block w.heap.size (by rw [hsE]; omega) (by intro e; simp at e; try omega)).trans HAE.out)
  have hO6 := (gS.block (w.heap.size + 1) (by omega) (by intro e; simp at e)).trans ((hgrow5'.block (w.heap.size + 1) (by rw [hsE]; omega) (by intro e; simp at e; try omega)).trans HOE.out)
  have hB6 : Below w.heap.size w w6 := (HBE.out.grown hgrow5' (by rw [hsE]; omega) (fun k e => by injection e with e; omega)).grown gS (by omega) (fun k e => by injection e with e; have : w.heap.size + 1 + 1 = k := e; omega)
  have hm3 : ∀ g, (Value.slice a5 ms.length c5).ownBlock = some g → w.heap.size + 3 ≤ g := fun g e2 => by
    rcases hat5 with h | h
    · rw [h] at e2; simp [Value.ownBlock] at e2; omega
    · rw [h, hsE] at e2; injection e2 with e2; omega
  have hown6 : w6.ownsRow w.heap.size 117 2 (.slice a5 ms.length c5) ms.length (cellsM ms) := own_rowKept hown5 gS (fun g e e2 => by injection e with e; have e' : w.heap.size + 1 + 1 = g := e; have := hm3 g e2; omega)
  have HM3 := Lib.hid hm3
  have hmg : ∀ g, (Value.slice a5 ms.length c5).ownBlock = some g → g < w6.heap.size := fun g e => (hown6.lt g e).2
  have HA6 := Lib.hid hA6
  have HO6 := Lib.hid hO6
  have HX6 := Lib.hid hX6
  have HB6 := Lib.hid hB6
  have HOM6 := Lib.hid hown6
  have HMG := Lib.hid hmg
  have hz6 : w.heap.size + 4 ≤ w6.heap.size := by have := gS.size; omega
  clear hX5 cX4 cX3 fX4 fX3 hX6 gS hgrow5 hgrow5' hat5 hown5 hA6 hO6 hB6 hown6 hmg hm3 HAE HOE HXE HBE HOWE HSRC HA2 HO2 HX2 HB2 HX hsE HS2 ca4 hs5
  clear w5
  go_loopw [4] (fun vi wr => ∃ (k c : Nat) (a : Option Addr), k ≤ ks.length ∧ vi = .int .i64 k ∧ Hid (wr.heap[w.heap.size + 1 + 1]? = some (.cells #[.int .i64 o, .int .i64 n, .string s, .slice a k c, .slice a5 ms.length c5] 39 (0, 0))) ∧ Hid (KidsO w6.heap.size wr (.slice a k c) (ks.take k)) ∧ Hid (w6.grownBy wr (some (w.heap.size + 1 + 1)))) (fun vi _ => ks.length - (intOf vi).toNat)
  case atStart => exact ⟨0, 0, none, Nat.zero_le _, rfl, HX6, kidsO_nil _ _, World.grownBy.refl w6 _⟩
  case round =>
    obtain ⟨k, c, a, hk, rfl, hX, hKO, hG⟩ := hrel
    clear HX6
    have hszr : w6.heap.size ≤ wr.heap.size := hG.out.size
    have hAr := (hG.out.block w.heap.size (by omega) (by intro e; simp at e; try omega)).trans HA6.out
    have HAR := Lib.hid hAr
    have ca3 : wr.cell? ⟨w.heap.size, 3, none⟩ = some (.slice ka ks.length kc) := by rw [Lib.cell_of_heap hAr]; rfl
    clear hAr
    rcases Nat.lt_or_ge k ks.length with hlt | hge
    · have k1 : (k : Int) < ks.length := by omega
      have k0 : (0 : Int) ≤ k := by omega
      have hBr : Below w.heap.size w wr := HB6.out.grown hG.out (by omega) (fun k e => by injection e with e; omega)
      obtain ⟨b, off, rfl, -, hbl, hrow⟩ := (HK.out.kept (same_of_below (N := All) hBr)).cells (by omega)
      obtain ⟨f, ⟨y0, y1, y2, y3, y4⟩, ht⟩ := hrow k hlt
      have htk : (ks.take k).length = k := by rw [List.length_take]; omega
      obtain ⟨fs, hfl, hown, htr⟩ := hKO.out
      rw [htk] at hown
      have hXr := (Array.getElem?_eq_some_iff.1 hX.out).1
      have cX : wr.cell? ⟨w.heap.size + 1 + 1, 3, none⟩ = some (.slice a k c) := by rw [Lib.cell_of_heap hX.out]; rfl
      have hcall2 : Calls Tryz.prog 100 #[.agg #[.int .i64 f.op, .int .i64 f.num, .string f.name, .slice f.ka f.kl f.kc, .slice f.ma f.ml f.mc]] wr.drew (fun e w3 => ∃ (f3 : Fld), e = .returned (.agg #[.int .i64 f3.op, .int .i64 f3.num, .string f3.name, .slice f3.ka f3.kl f3.kc, .slice f3.ma f3.ml f3.mc]) ∧ Hid (TrF (fun x => wr.heap.size ≤ x) w3 ks[k] f3 ∧ Below wr.heap.size wr w3) ∧ w3.cell? ⟨w.heap.size + 1 + 1, 3, none⟩ = some (.slice a k c) ∧ (w3.alloc (.cells #[.int .i64 f3.op, .int .i64 f3.num, .string f3.name, .slice f3.ka f3.kl f3.kc, .slice f3.ma f3.ml f3.mc] 39)).cell? ⟨w.heap.size + 1 + 1, 3, none⟩ = some (.slice a k c) ∧ wr.heap.size ≤ w3.heap.size ∧ Hid (w3.heap[w.heap.size + 1 + 1]? = some (.cells #[.int .i64 o, .int .i64 n, .string s, .slice a k c, .slice a5 ms.length c5] 39 (0, 0))) ∧ Hid (w3.ownsRow w6.heap.size 39 5 (.slice a k c) k (rowsR fs))) := by
        refine (IH.out ks[k] (List.getElem_mem _) f wr.drew (ht.kept (same_of_below (belowN (Below.refl _ _) 1))) (HSZ.out k hlt)).mono ?_
        rintro e w3 ⟨f3, C3, rfl, q1, q2, q3, htop, hb3⟩
        have hb3' : Below wr.heap.size wr w3 := (belowN (Below.refl _ _) 1).trans hb3
        have htt := htop.tr
        rw [q1, q2, q3, node_eta] at htt
        have hX3 := (hb3'.block _ hXr).trans hX.out
        have hXA := ((Below.refl w3.heap.size w3).alloc (Nat.le_refl _) (.cells #[.int .i64 f3.op, .int .i64 f3.num, .string f3.name, .slice f3.ka f3.kl f3.kc, .slice f3.ma f3.ml f3.mc] 39)).block _ (Nat.lt_of_lt_of_le hXr hb3'.size) |>.trans hX3
        exact ⟨f3, rfl, ⟨htt, hb3'⟩, by rw [Lib.cell_of_heap hX3]; rfl, by rw [Lib.cell_of_heap hXA]; rfl, hb3'.size, hX3, own_rowKept (row := none) hown (grown_any hb3') (fun b e => by cases e)⟩
      have HC := Lib.hid hcall2
      have HO := Lib.hid hown
      have HT := Lib.hid htr
      have hgl : ∀ g, (Value.slice a k c).ownBlock = some g → w6.heap.size ≤ g ∧ g < wr.heap.size := fun g e => hown.lt g e
      have HGL : Hid (∀ g, (Value.slice a k c).ownBlock = some g → w.heap.size + 1 + 1 + 1 ≤ g ∧ g < wr.heap.size) := fun g e => ⟨by have := (hgl g e).1; omega, (hgl g e).2⟩
      have HGL2 : Hid (∀ g, (Value.slice a k c).ownBlock = some g → w6.heap.size ≤ g) := fun g e => (hgl g e).1
      have HFL := Lib.hid hfl
      clear hcall2 hown htr hgl hfl hKO ht hrow hbl hBr
      go_wp2_with fail
      go_region_law (first
        | (refine step_append_lies _ ?g1 ?gs ?gx 36 ?g2 w6.heap.size 39 i0 (.agg #[.int .i64 0, .int .i64 0, .string ⟨#[]⟩, .slice none 0 0, .slice none 0 0]) 5 80 ?g3 ?g4 ?g5 ?g6 ?g7 ?g8 ?g9 (.slice a k c) k (rowsR fs) ?g10 ?h1 ⟨w3.heap.size, 0, none⟩ 1 1 (rowR f3) ?g11 ?g12 ?h2 ?h3 ?c1 ?c2 ?c3 ?c4 (w3.heap.size + 1) ?c5 ?_; (case g1 => rfl); (case g2 => rfl); (case g10 => rfl); (case g11 => rfl); (case h1 => exact HO3.out.alloc _); (case g3 => exact Tryz.underlying36); (case g4 => exact hi); (case g5 => exact hz0); (case g6 => exact hz1); (case g7 => exact hz2); (case g8 => rfl); (case g9 => decide); (case g12 => rfl); (case h2 => exact one_kid f3 (heap_alloc_new w3 _)); (case h3 => exact rowR_one f3); (case c1 => decide); (case c2 => unfold maxLen; omega); (case c3 => omega); (case c4 => simp only [World.size_alloc]; omega); (case c5 => simp only [World.size_alloc]); intro g5 cap5 w5 hown5 hgrow5 hat5 hlt5; have hX5 := kid_far HX3.out hgrow5 HGL.out hXw3; have cX5 : w5.cell? ⟨w.heap.size + 1 + 1, 3, none⟩ = some (.slice a k c) := cell3 hX5; have fX5 : w5.frozen? ⟨w.heap.size + 1 + 1, 3, none⟩ = false := Lib.frozen_of_heap hX5 3)
        | (go_simp; go_at_call 100; go_must (refine HC.out.mono ?_); rintro e w3 ⟨f3, rfl, HK3, cX3, cXA, hsz3, HX3, HO3⟩; have hXw3 : w.heap.size + 1 + 1 < w3.heap.size := Nat.lt_of_lt_of_le hXr hsz3))
      all_goals
        have hnx := copy_next (C := w6.heap.size) htk.symm HK3.out.1 HK3.out.2 (by omega) (Nat.le_refl _) hG.out hX.out HFL.out (by rw [htk]; exact HO.out) HT.out (by rw [htk]; exact hown5) hgrow5 hat5 HGL2.out
        generalize (w5.setCell ⟨w.heap.size + 1 + 1, 3, none⟩ (.slice (some ⟨g5, 0, none⟩) (k + 1) cap5)) = W6 at *
        obtain ⟨nx1, nx2, nx3, -⟩ := hnx
        have NX1 := Lib.hid nx1
        have NX2 : Hid (KidsO w6.heap.size W6 (.slice (some ⟨g5, 0, none⟩) (k + 1) cap5) (ks.take (k + 1))) := by rw [List.take_succ_eq_append_getElem hlt]; exact nx2
        have NX3 := Lib.hid nx3
        clear nx1 nx2 nx3 hown5 hgrow5 hat5 hX5 cX5 fX5
        go_wp2
        go_roundw
        case rel => exact ⟨k + 1, cap5, some ⟨g5, 0, none⟩, by omega, by go_num, NX1, NX2, NX3⟩
        case measure => simp [intOf]; omega
    · obtain rfl : k = ks.length := by omega
      have hX' := hX.out
      have y0 : wr.cell? ⟨w.heap.size + 1 + 1, 0, none⟩ = some (.int .i64 o) := by rw [Lib.cell_of_heap hX']; rfl
      have y1 : wr.cell? ⟨w.heap.size + 1 + 1, 1, none⟩ = some (.int .i64 n) := by rw [Lib.cell_of_heap hX']; rfl
      have y2 : wr.cell? ⟨w.heap.size + 1 + 1, 2, none⟩ = some (.string s) := by rw [Lib.cell_of_heap hX']; rfl
      have y3 : wr.cell? ⟨w.heap.size + 1 + 1, 3, none⟩ = some (.slice a ks.length c) := by rw [Lib.cell_of_heap hX']; rfl
      have y4 : wr.cell? ⟨w.heap.size + 1 + 1, 4, none⟩ = some (.slice a5 ms.length c5) := by rw [Lib.cell_of_heap hX']; rfl
      have hres := (hG.out.block (w.heap.size + 1) (by omega) (by intro e; simp at e)).trans HO6.out
      have hfin : (wr.setRow (w.heap.size + 1) #[.int .i64 o, .int .i64 n, .string s, .slice a ks.length c, .slice a5 ms.length c5]).heap[w.heap.size + 1]? = some (.cells #[.int .i64 o, .int .i64 n, .string s, .slice a ks.length c, .slice a5 ms.length c5] 39 (0, 0)) := setRow_heap _ (w.heap.size + 1) _ _ _ _ hres
      have gF := grown_setRowT wr (w.heap.size + 1) #[.int .i64 o, .int .i64 n, .string s, .slice a ks.length c, .slice a5 ms.length c5]
      have hpost : CopyOP o n s ks ms w (.returned (Fld.val ⟨o, n, s, a, ks.length, c, a5, ms.length, c5⟩)) (wr.setRow (w.heap.size + 1) #[.int .i64 o, .int .i64 n, .string s, .slice a ks.length c, .slice a5 ms.length c5]) := by
        have hkk := hKO.out
        rw [List.take_length] at hkk
        have hm1 := own_rowKept HOM6.out hG.out (fun g e e2 => by
          injection e with e; have := HM3.out g e2; omega)
        refine ⟨_, w6.heap.size, rfl, rfl, rfl, rfl, ⟨by omega, hkk.kept gF (fun b e => by injection e with e; omega), own_rowKept hm1 gF (fun g e e2 => by injection e with e; have := HM3.out g e2; omega), HMG.out⟩, (HB6.out.grown hG.out (by omega) (fun k e => by injection e with e; omega)).grown gF (by omega) (fun k e => by injection e with e; omega)⟩
      go_wp2_with (first
        | (refine wpList_store_row rfl 39 _ _ rfl (w.heap.size + 1) #[.int .i64 o, .int .i64 n, .string s, .slice a ks.length c, .slice a5 ms.length c5] rfl rfl 39 #[.int .i64 0, .int .i64 0, .string ⟨#[]⟩, .slice none 0 0, .slice none 0 0] hres ruleSize rfl (by simp [Value.oneCell']) ?_)
        | fail)
      generalize wr.setRow (w.heap.size + 1) #[.int .i64 o, .int .i64 n, .string s, .slice a ks.length c, .slice a5 ms.length c5] = WF at *
      have v0 : WF.cell? ⟨w.heap.size + 1, 0, none⟩ = some (.int .i64 o) := by rw [Lib.cell_of_heap hfin]; rfl
      have v1 : WF.cell? ⟨w.heap.size + 1, 1, none⟩ = some (.int .i64 n) := by rw [Lib.cell_of_heap hfin]; rfl
      have v2 : WF.cell? ⟨w.heap.size + 1, 2, none⟩ = some (.string s) := by rw [Lib.cell_of_heap hfin]; rfl
      have v3 : WF.cell? ⟨w.heap.size + 1, 3, none⟩ = some (.slice a ks.length c) := by rw [Lib.cell_of_heap hfin]; rfl
      have v4 : WF.cell? ⟨w.heap.size + 1, 4, none⟩ = some (.slice a5 ms.length c5) := by rw [Lib.cell_of_heap hfin]; rfl
      have HP := Lib.hid hpost
      clear hfin hpost hres y0 y1 y2 y3 y4
      refine bodyPost_ret (v := Fld.val ⟨o, n, s, a, ks.length, c, a5, ms.length, c5⟩) ?_ rfl HP.out
      unfold Fld.val
      rw [results_cell1 rfl]
      go_simp
      all_goals rfl
theorem copyO : ∀ (k : Nat) (t : Tr), wT t ≤ k → CopyAtO t := by
  intro k
  induction k with
  | zero => intro t h; cases t; rw [wT] at h; omega
  | succ k ih =>
    intro t hk
    obtain ⟨o, n, s, ks, ms⟩ := t
    rw [wT] at hk
    exact copyNode o n s ks ms fun t ht => ih t (by have := wL_mem ht; omega)
end Go.Proofs.YtjphjnopdlfplaaGreatDoor
