/-
  What l14SpoilRule makes of a rule: a copy in new memory, changed somewhere.
-/
import Derived.Test.YtjphjnopdlfplaaGreatDoorDrawSmall
import Derived.Test.YtjphjnopdlfplaaGreatDoorRuleO
import Derived.Test.YtjphjnopdlfplaaGreatDoorPutL
namespace Go.Proofs.YtjphjnopdlfplaaGreatDoor
open Go.RowKit
set_option linter.unusedVariables false
set_option linter.unusedSimpArgs false

/-- Kids in a row of one's own, their trees where M tells, but not in the row. -/
def KidsMP (Mm : Nat → Prop) (B : Nat) (w : World) (v : Value) (ts : List Tr) : Prop :=
  ∃ fs : List Fld, fs.length = ts.length ∧ w.ownsRow B 39 5 v ts.length (rowsR fs) ∧ ∀ j, (h : j < ts.length) → ∃ f, fs[j]? = some f ∧ TrF (fun x => Mm x ∧ v.ownBlock ≠ some x) w ts[j] f
theorem KidsO.top {C : Nat} {w : World} {v : Value} {ts : List Tr} (h : KidsO C w v ts) : KidsMP (fun x => C ≤ x ∧ x < w.heap.size) C w v ts := by
  obtain ⟨fs, h1, h2, h3⟩ := h
  refine ⟨fs, h1, h2, fun j hj => ?_⟩
  obtain ⟨f, e, k⟩ := h3 j hj
  exact ⟨f, e, TrF.mono (fun x hx => ⟨⟨hx.1.1, hx.2⟩, hx.1.2⟩) _ _ (TrF.lt _ _ k)⟩
theorem KidsMP.kept {Mm : Nat → Prop} {B : Nat} {w w' : World} {v : Value} {ts : List Tr} {row : Option Nat} (h : KidsMP Mm B w v ts) (hg : w.grownBy w' row) (hr : ∀ y, row = some y → ¬ Mm y ∧ v.ownBlock ≠ some y) : KidsMP Mm B w' v ts := by
  obtain ⟨fs, h1, h2, h3⟩ := h
  refine ⟨fs, h1, own_rowKept h2 hg (fun b hb => (hr b hb).2), fun j hj => ?_⟩
  obtain ⟨f, e, ht⟩ := h3 j hj
  exact ⟨f, e, ht.kept ⟨hg.size, fun b hb hl => hg.block b hl (fun e => (hr b e.symm).1 hb.1)⟩⟩
/-- .. read as a row of kids. -/
theorem KidsMP.rows {Mm N : Nat → Prop} {B : Nat} {w : World} {a : Option Addr} {n c : Nat} {ts : List Tr} (h : KidsMP Mm B w (.slice a n c) ts) (hN : ∀ x, Mm x → N x) (hB : ∀ g, B ≤ g → N g) : n = ts.length ∧ n ≤ c ∧ RowsT N w a n ts := by
  obtain ⟨fs, h1, h2, h3⟩ := h
  have hc := own_cap h2
  rcases h2.2 with ⟨e, e0⟩ | ⟨g, cap, cur, e, hg, hh, -⟩
  · injection e with e1 e2 e3
    subst e1 e2
    exact ⟨e0.symm, hc, e0.symm, Or.inl e0⟩
  · injection e with e1 e2 e3
    subst e1 e2 e3
    have hgl := (h2.lt g rfl).2
    refine ⟨rfl, hc, rowsT_of (hB g hg) hgl fun j hj => ?_⟩
    obtain ⟨f, hf, ht⟩ := h3 j hj
    have hjf := (List.getElem?_eq_some_iff.1 hf).1
    have ef : fs[j] = f := (List.getElem?_eq_some_iff.1 hf).2
    have key : ∀ m, m < 5 → w.cell? ⟨g, j * 5 + m, none⟩ = (rowR f)[m]? := fun m hm => by
      rw [h2.cellAt (j * 5 + m) (by omega), rowsR_get fs j m hjf hm, ef]
    refine ⟨f, ⟨?_, ?_, ?_, ?_, ?_⟩, TrF.mono (fun b hb => hN b hb.1) _ _ ht⟩
    · rw [Nat.zero_add]; exact key 0 (by omega)
    · rw [Nat.zero_add]; exact key 1 (by omega)
    · rw [Nat.zero_add]; exact key 2 (by omega)
    · rw [Nat.zero_add]; exact key 3 (by omega)
    · rw [Nat.zero_add]; exact key 4 (by omega)
theorem rowsR_set (fs : List Fld) (k : Nat) (f : Fld) (h : k < fs.length) : putL (rowsR fs) (k * 5) (rowR f) = rowsR (fs.set k f) := by
  apply List.ext_getElem?
  intro i
  by_cases hi : i < (rowsR fs).length
  · rw [rowsR_len] at hi
    have e : i = i / 5 * 5 + i % 5 := by omega
    have hm : i % 5 < 5 := by omega
    have hj : i / 5 < fs.length := by omega
    generalize i / 5 = j at *
    generalize i % 5 = m at *
    subst e
    rw [rowsR_get (fs.set k f) j m (by simpa using hj) hm]
    by_cases ej : j = k
    · subst ej
      rw [putL_at _ _ _ _ (by simp [rowR]; omega) (by rw [rowsR_len]; simp [rowR]; omega)]
      simp
    · rw [putL_ne _ _ _ _ (by simp [rowR]; omega), rowsR_get fs j m hj hm, List.getElem_set_ne (by omega)]
  · have h1 := rowsR_len fs
    rw [List.getElem?_eq_none (by rw [putL_len]; omega), List.getElem?_eq_none (by rw [rowsR_len, List.length_set]; omega)]
/-- Where it ends: in a box the rule that is handed on. -/
def EndY (b p K S rb Y : Nat) (w W : World) (f : Fld) : Prop :=
  W.heap[Y]? = some (.cells #[.int .i64 f.op, .int .i64 f.num, .string f.name, .slice f.ka f.kl f.kc, .slice f.ma f.ml f.mc] 39 (0, 0)) ∧ W.heap[rb]? = some (.cells #[.int .i64 0, .int .i64 0, .string ⟨#[]⟩, .slice none 0 0, .slice none 0 0] 39 (0, 0)) ∧ (∃ t, TrF (fun x => rb < x) W t f ∧ szT t ≤ S) ∧ (∃ q, Rd b W b q ∧ q ≤ p + K) ∧ w.grownBy W (some b) ∧ w.heap.size ≤ rb ∧ b < w.heap.size
theorem EndY.post {b p K S rb Y : Nat} {w W : World} {f : Fld} {cells : Array Value} (h : EndY b p K S rb Y w W f) : DrawnR b p K S w (.returned f.val) (W.setRow rb cells) := by
  obtain ⟨-, hx, ⟨t, ht, hs⟩, ⟨q, hr, hq⟩, hg, hrb, hbw⟩ := h
  have hl : rb < W.heap.size := (Array.getElem?_eq_some_iff.1 hx).1
  have hB : Below rb W (W.setRow rb cells) := ⟨rfl, rfl, rfl, by simp, fun i hi => setRow_other _ _ _ _ (by omega)⟩
  have hG := grown_setRowT W rb cells
  refine ⟨t, f, q, rfl, TrF.mono (fun x hx => by omega) _ _ (ht.kept (same_grown hG (fun y hy => by omega))), hs, hr.kept (hB.mono (by omega)) (hB.block b (by omega)), hq, ?_⟩
  exact ⟨hB.os.trans hg.os, hB.tape.trans hg.tape, hB.output.trans hg.output, Nat.le_trans hg.size hB.size, fun i hi hne => (hB.block i (by omega)).trans (hg.block i hi hne)⟩
/-- Ahead of a change: the copy in a box at Y, its rows and trees. -/
def StY (b q rb Y C : Nat) (w W : World) (f : Fld) (ks : List Tr) (ms : List (Int × Int)) : Prop :=
  W.heap[Y]? = some (.cells #[.int .i64 f.op, .int .i64 f.num, .string f.name, .slice f.ka f.kl f.kc, .slice f.ma f.ml f.mc] 39 (0, 0)) ∧ W.heap[rb]? = some (.cells #[.int .i64 0, .int .i64 0, .string ⟨#[]⟩, .slice none 0 0, .slice none 0 0] 39 (0, 0)) ∧ KidsMP (fun x => C ≤ x ∧ x < Y) C W (.slice f.ka f.kl f.kc) ks ∧ W.ownsRow (rb + 1) 117 2 (.slice f.ma f.ml f.mc) ms.length (cellsM ms) ∧ (∀ g, (Value.slice f.ka f.kl f.kc).ownBlock = some g → C ≤ g ∧ g < Y) ∧ (∀ g, (Value.slice f.ma f.ml f.mc).ownBlock = some g → rb < g ∧ g < C) ∧ (rb < C ∧ C ≤ Y) ∧ Rd b W b q ∧ w.grownBy W (some b) ∧ w.heap.size ≤ rb ∧ b < w.heap.size
theorem StY.grown {b q q' rb Y C : Nat} {w W W' : World} {f : Fld} {ks : List Tr} {ms : List (Int × Int)} (h : StY b q rb Y C w W f ks ms) (hg : W.grownBy W' (some b)) (hr : Rd b W' b q') : StY b q' rb Y C w W' f ks ms := by
  obtain ⟨h1, h2, h3, h4, h5, h6, h7, h8, h9, h10, h11⟩ := h
  refine ⟨(hg.block Y (Array.getElem?_eq_some_iff.1 h1).1 (fun e => by injection e with e; omega)).trans h1, (hg.block rb (Array.getElem?_eq_some_iff.1 h2).1 (fun e => by injection e with e; omega)).trans h2, h3.kept hg (fun y e => by
    injection e with e
    subst e
    exact ⟨fun hm => by omega, fun e => by have := (h5 _ e).1; omega⟩), own_rowKept h4 hg (fun y e e2 => by injection e with e; have := (h6 _ e2).1; omega), h5, h6, h7, hr, grown_trans h9 hg, h10, h11⟩
theorem StY.tr {b q rb Y C : Nat} {w W : World} {f : Fld} {ks : List Tr} {ms : List (Int × Int)} (h : StY b q rb Y C w W f ks ms) (o n : Int) (s : ByteArray) : TrF (fun x => rb < x ∧ x < Y) W (.node o n s ks ms) ⟨o, n, s, f.ka, f.kl, f.kc, f.ma, f.ml, f.mc⟩ := by
  obtain ⟨h1, h2, h3, h4, h5, h6, h7, h8, h9, h10, h11⟩ := h
  obtain ⟨fs, k1, k2, k3⟩ := h3
  have hsm : KidsMP (fun x => C ≤ x ∧ x < Y) C W (.slice f.ka f.kl f.kc) ks := ⟨fs, k1, k2, k3⟩
  obtain ⟨m1, m2⟩ := marksN_own h4
  have hm : MarksN (fun x => rb < x ∧ x < Y) W f.ma f.ml ms := by
    obtain ⟨e1, e2⟩ := m2
    refine ⟨e1, e2.imp id fun ⟨b', off, q1, q2, q3, q4⟩ => ⟨b', off, q1, ?_, q3, q4⟩⟩
    rcases h4.2 with ⟨e, e0⟩ | ⟨g, cap, cur, e, hg, -⟩
    · injection e with e3; rw [q1] at e3; cases e3
    · have ee := e
      injection e with e3 e4 e5
      rw [q1] at e3
      injection e3 with e3
      injection e3 with e3
      have := h6 g (by rw [ee]; rfl)
      subst e3
      omega
  obtain ⟨r1, r2, r3⟩ := hsm.rows (N := fun x => rb < x) (fun x hx => by omega) (fun g hg => by omega)
  refine trF_iff.2 ⟨rfl, rfl, rfl, hm, ?_, r2, m1⟩
  obtain ⟨e1, e2⟩ := r3
  refine ⟨e1, e2.imp id fun ⟨b', off, q1, q2, q3, q4⟩ => ?_⟩
  rcases k2.2 with ⟨e, e0⟩ | ⟨g, cap, cur, e, hg, -⟩
  · injection e with e3; rw [q1] at e3; cases e3
  · have ee := e
    injection e with e3 e4 e5
    have hgo := h5 g (by rw [ee]; rfl)
    rw [q1] at e3
    injection e3 with e3
    injection e3 with e3 e6
    subst e3 e6
    have hgl : b' < W.heap.size := q3
    refine ⟨b', 0, q1, by omega, q3, rowF_of ks 0 fun j hj => ?_⟩
    obtain ⟨f', hf, ht⟩ := k3 j hj
    have hjf := (List.getElem?_eq_some_iff.1 hf).1
    have ef : fs[j] = f' := (List.getElem?_eq_some_iff.1 hf).2
    have key : ∀ m, m < 5 → W.cell? ⟨b', j * 5 + m, none⟩ = (rowR f')[m]? := fun m hm => by
      have hk2 := k2
      rw [ee] at hk2
      rw [hk2.cellAt (j * 5 + m) (by omega), rowsR_get fs j m hjf hm, ef]
    refine ⟨f', ⟨?_, ?_, ?_, ?_, ?_⟩, TrF.mono (fun b hb => by omega) _ _ ht⟩
    · rw [Nat.zero_add, Nat.zero_add]; exact key 0 (by omega)
    · rw [Nat.zero_add, Nat.zero_add]; exact key 1 (by omega)
    · rw [Nat.zero_add, Nat.zero_add]; exact key 2 (by omega)
    · rw [Nat.zero_add, Nat.zero_add]; exact key 3 (by omega)
    · rw [Nat.zero_add, Nat.zero_add]; exact key 4 (by omega)
theorem StY.fin {b p q K S rb Y C : Nat} {w W : World} {f f' : Fld} {ks : List Tr} {ms : List (Int × Int)} {t' : Tr} {j : Nat} {v : Value} (h : StY b q rb Y C w W f ks ms)
    (hrow : (W.setCell ⟨Y, j, none⟩ v).heap[Y]? = some (.cells #[.int .i64 f'.op, .int .i64 f'.num, .string f'.name, .slice f'.ka f'.kl f'.kc, .slice f'.ma f'.ml f'.mc] 39 (0, 0))) (ht : TrF (fun x => rb < x ∧ x < Y) W t' f') (hs : szT t' ≤ S) (hq : q ≤ p + K) : EndY b p K S rb Y w (W.setCell ⟨Y, j, none⟩ v) f' := by
  obtain ⟨h1, h2, h3, h4, h5, h6, h7, h8, h9, h10, h11⟩ := h
  have gS := grown_set W ⟨Y, j, none⟩ v
  refine ⟨hrow, (gS.block rb (Array.getElem?_eq_some_iff.1 h2).1 (by intro e; injection e with e; have : rb = Y := e; omega)).trans h2, ⟨t', TrF.mono (fun x hx => hx.1) _ _ (ht.kept (same_grown (g := Y) gS (fun y hy => by omega))), hs⟩, ⟨q, h8.kept ((Below.refl _ _).setCell (p := ⟨Y, j, none⟩) (by show b ≤ Y; omega) _) (gS.block b h8.le.2 (by intro e; injection e with e; have : b = Y := e; omega)), hq⟩, grown_own h9 gS (fun k e => by injection e with e; have : Y = k := e; left; omega), h10, h11⟩
theorem StY.marks {b q rb Y C : Nat} {w W : World} {f : Fld} {ks : List Tr} {ms : List (Int × Int)} (h : StY b q rb Y C w W f ks ms) : f.ml ≤ f.mc ∧ MarksN (fun x => rb < x ∧ x < C) W f.ma f.ml ms := by
  obtain ⟨h1, h2, h3, h4, h5, h6, h7, h8, h9, h10, h11⟩ := h
  obtain ⟨m1, m2⟩ := marksN_own h4
  refine ⟨m1, ?_⟩
  obtain ⟨e1, e2⟩ := m2
  refine ⟨e1, e2.imp id fun ⟨b', off, q1, q2, q3, q4⟩ => ⟨b', off, q1, ?_, q3, q4⟩⟩
  rcases h4.2 with ⟨e, e0⟩ | ⟨g, cap, cur, e, hg, -⟩
  · injection e with e3; rw [q1] at e3; cases e3
  · have ee := e
    injection e with e3 e4 e5
    rw [q1] at e3
    injection e3 with e3
    injection e3 with e3
    have := h6 g (by rw [ee]; rfl)
    subst e3
    omega
theorem StY.after {b p q K rb Y C : Nat} {w W W6 : World} {f : Fld} {ks : List Tr} {ms : List (Int × Int)} (h : StY b q rb Y C w W f ks ms) (hs : W.heap.size ≤ W6.heap.size) (ho : W6.os = W.os ∧ W6.tape = W.tape ∧ W6.output = W.output) (hb : ∀ y, y ≤ rb → y < W.heap.size → W6.heap[y]? = W.heap[y]?) (hq : q ≤ p + K) :
    W6.heap[rb]? = some (.cells #[.int .i64 0, .int .i64 0, .string ⟨#[]⟩, .slice none 0 0, .slice none 0 0] 39 (0, 0)) ∧ (∃ q, Rd b W6 b q ∧ q ≤ p + K) ∧ w.grownBy W6 (some b) := by
  obtain ⟨h1, h2, h3, h4, h5, h6, h7, h8, h9, h10, h11⟩ := h
  have hl := (Array.getElem?_eq_some_iff.1 h2).1
  refine ⟨(hb rb (Nat.le_refl _) hl).trans h2, ⟨q, h8.kept ⟨ho.1, ho.2.1, ho.2.2, hs, fun i hi => hb i (by omega) (by omega)⟩ (hb b (by omega) h8.le.2), hq⟩, ⟨ho.1.trans h9.os, ho.2.1.trans h9.tape, ho.2.2.trans h9.output, Nat.le_trans h9.size hs, fun i hi hne => (hb i (by omega) (by omega)).trans (h9.block i hi hne)⟩⟩
/-- One more kid. -/
theorem StY.addKid {b p q K S rb Y C : Nat} {w W wA w5 : World} {f fl : Fld} {ks : List Tr} {ms : List (Int × Int)} {fs : List Fld} {tl : Tr} {g cap : Nat} (h : StY b q rb Y C w W f ks ms) (hA : Below W.heap.size W wA)
    (k1 : fs.length = ks.length) (k3 : ∀ j, (h : j < ks.length) → ∃ f', fs[j]? = some f' ∧ TrF (fun x => (C ≤ x ∧ x < Y) ∧ (Value.slice f.ka f.kl f.kc).ownBlock ≠ some x) W ks[j] f')
    (hl : ∀ W', TrF (fun x => rb < x) W' tl fl) (hown : w5.ownsRow C 39 5 (.slice (some ⟨g, 0, none⟩) (ks.length + 1) cap) (ks.length + 1) (rowsR fs ++ rowR fl)) (hgr : wA.grownBy w5 (Value.slice f.ka f.kl f.kc).ownBlock) (hat : (Value.slice f.ka f.kl f.kc).ownBlock = some g ∨ g = wA.heap.size)
    (hs : szT (.node f.op f.num f.name (ks ++ [tl]) ms) ≤ S) (hq : q ≤ p + K) : EndY b p K S rb Y w (w5.setCell ⟨Y, 3, none⟩ (.slice (some ⟨g, 0, none⟩) (ks.length + 1) cap)) ⟨f.op, f.num, f.name, some ⟨g, 0, none⟩, ks.length + 1, cap, f.ma, f.ml, f.mc⟩ := by
  obtain ⟨m1, m2⟩ := h.marks
  have hh := h
  obtain ⟨h1, h2, h3, h4, h5, h6, h7, h8, h9, h10, h11⟩ := h
  have hYl := (Array.getElem?_eq_some_iff.1 h1).1
  have hsA := hA.size
  have gS := grown_set w5 ⟨Y, 3, none⟩ (.slice (some ⟨g, 0, none⟩) (ks.length + 1) cap)
  have hY5 := (hgr.block Y (by omega) (fun e => by have := h5 Y e.symm; omega)).trans ((hA.block Y hYl).trans h1)
  have hY6 : (w5.setCell ⟨Y, 3, none⟩ (.slice (some ⟨g, 0, none⟩) (ks.length + 1) cap)).heap[Y]? = some (.cells #[.int .i64 (⟨f.op, f.num, f.name, some ⟨g, 0, none⟩, ks.length + 1, cap, f.ma, f.ml, f.mc⟩ : Fld).op, .int .i64 (⟨f.op, f.num, f.name, some ⟨g, 0, none⟩, ks.length + 1, cap, f.ma, f.ml, f.mc⟩ : Fld).num, .string (⟨f.op, f.num, f.name, some ⟨g, 0, none⟩, ks.length + 1, cap, f.ma, f.ml, f.mc⟩ : Fld).name, .slice (⟨f.op, f.num, f.name, some ⟨g, 0, none⟩, ks.length + 1, cap, f.ma, f.ml, f.mc⟩ : Fld).ka (⟨f.op, f.num, f.name, some ⟨g, 0, none⟩, ks.length + 1, cap, f.ma, f.ml, f.mc⟩ : Fld).kl (⟨f.op, f.num, f.name, some ⟨g, 0, none⟩, ks.length + 1, cap, f.ma, f.ml, f.mc⟩ : Fld).kc, .slice (⟨f.op, f.num, f.name, some ⟨g, 0, none⟩, ks.length + 1, cap, f.ma, f.ml, f.mc⟩ : Fld).ma (⟨f.op, f.num, f.name, some ⟨g, 0, none⟩, ks.length + 1, cap, f.ma, f.ml, f.mc⟩ : Fld).ml (⟨f.op, f.num, f.name, some ⟨g, 0, none⟩, ks.length + 1, cap, f.ma, f.ml, f.mc⟩ : Fld).mc] 39 (0, 0)) := by simp [World.setCell, Array.getElem?_modify, hY5]
  have hgY : g ≠ Y := by rcases hat with e | e; · have := h5 g e; omega
                         · omega
  have hgC : C ≤ g := (hown.lt g rfl).1
  have far : ∀ y, y < Y → y < W.heap.size → (Value.slice f.ka f.kl f.kc).ownBlock ≠ some y → (w5.setCell ⟨Y, 3, none⟩ (.slice (some ⟨g, 0, none⟩) (ks.length + 1) cap)).heap[y]? = W.heap[y]? := fun y hy hyl hyo => by
    rw [gS.block y (by have := hgr.size; omega) (by intro e; injection e with e; have : y = Y := e; omega), hgr.block y (by omega) (fun e => hyo e.symm), hA.block y hyl]
  have hown6 := own_rowKept hown gS (fun y e e2 => by injection e with e; have e' : Y = y := e; simp [Value.ownBlock] at e2; omega)
  have hsz : W.heap.size ≤ (w5.setCell ⟨Y, 3, none⟩ (.slice (some ⟨g, 0, none⟩) (ks.length + 1) cap)).heap.size := by have := gS.size; have := hgr.size; omega
  have hos : (w5.setCell ⟨Y, 3, none⟩ (.slice (some ⟨g, 0, none⟩) (ks.length + 1) cap)).os = W.os ∧ (w5.setCell ⟨Y, 3, none⟩ (.slice (some ⟨g, 0, none⟩) (ks.length + 1) cap)).tape = W.tape ∧ (w5.setCell ⟨Y, 3, none⟩ (.slice (some ⟨g, 0, none⟩) (ks.length + 1) cap)).output = W.output := ⟨gS.os.trans (hgr.os.trans hA.os), gS.tape.trans (hgr.tape.trans hA.tape), gS.output.trans (hgr.output.trans hA.output)⟩
  generalize (w5.setCell ⟨Y, 3, none⟩ (.slice (some ⟨g, 0, none⟩) (ks.length + 1) cap)) = W6 at *
  obtain ⟨z1, z2, z3⟩ := hh.after (p := p) (K := K) hsz hos (fun y hy hl => far y (by omega) hl (fun e => by have := h5 y e; omega)) hq
  refine ⟨hY6, z1, ⟨.node f.op f.num f.name (ks ++ [tl]) ms, trF_iff.2 ⟨rfl, rfl, rfl, (m2.kept ⟨hsz, fun y hy hl => far y (by omega) hl (fun e => by have := h5 y e; omega)⟩).mono (fun x hx => hx.1), ?_, own_cap hown6, m1⟩, hs⟩, z2, z3, h10, h11⟩
  have hgl := (hown6.lt g rfl).2
  have hlen : (ks ++ [tl]).length = ks.length + 1 := by simp
  show RowsT (fun x => rb < x) W6 (some ⟨g, 0, none⟩) (ks.length + 1) (ks ++ [tl])
  rw [← hlen]
  refine rowsT_of (by omega) hgl fun j hj => ?_
  have key : ∀ f', (fs ++ [fl])[j]? = some f' → ∀ m, m < 5 → W6.cell? ⟨g, 0 + j * 5 + m, none⟩ = (rowR f')[m]? := fun f' hf m hm => by
    have hjf := (List.getElem?_eq_some_iff.1 hf).1
    have ef : (fs ++ [fl])[j] = f' := (List.getElem?_eq_some_iff.1 hf).2
    rw [Nat.zero_add, hown6.cellAt (j * 5 + m) (by omega), rowsR_snoc, rowsR_get (fs ++ [fl]) j m hjf hm, ef]
  have fin : ∀ f', (fs ++ [fl])[j]? = some f' → TrF (fun x => rb < x) W6 (ks ++ [tl])[j] f' → ∃ f, CellsF W6 g (0 + j * 5) f ∧ TrF (fun x => rb < x) W6 (ks ++ [tl])[j] f := fun f' hf ht => ⟨f', ⟨key f' hf 0 (by omega), key f' hf 1 (by omega), key f' hf 2 (by omega), key f' hf 3 (by omega), key f' hf 4 (by omega)⟩, ht⟩
  by_cases e : j < ks.length
  · obtain ⟨f', e1, e2⟩ := k3 j e
    refine fin f' (by rw [List.getElem?_append_left (by omega)]; exact e1) ?_
    rw [List.getElem_append_left e]
    exact TrF.mono (fun x hx => by omega) _ _ (e2.kept ⟨hsz, fun y hy hl => far y hy.1.2 hl hy.2⟩)
  · have : j = ks.length := by omega
    subst this
    refine fin fl (by rw [← k1]; simp) ?_
    simp only [List.getElem_append_right (Nat.le_refl _), Nat.sub_self, List.getElem_cons_zero]
    exact hl W6
/-- One more mark. -/
theorem StY.addMark {b p q K S rb Y C : Nat} {w W wA w5 : World} {f : Fld} {ks : List Tr} {ms : List (Int × Int)} {m : Int × Int} {g cap : Nat} (h : StY b q rb Y C w W f ks ms) (hA : Below W.heap.size W wA)
    (hown : w5.ownsRow (rb + 1) 117 2 (.slice (some ⟨g, 0, none⟩) (ms.length + 1) cap) (ms.length + 1) (cellsM ms ++ [.int .i64 m.1, .int .i64 m.2])) (hgr : wA.grownBy w5 (Value.slice f.ma f.ml f.mc).ownBlock) (hat : (Value.slice f.ma f.ml f.mc).ownBlock = some g ∨ g = wA.heap.size)
    (hs : szT (.node f.op f.num f.name ks (ms ++ [m])) ≤ S) (hq : q ≤ p + K) : EndY b p K S rb Y w (w5.setCell ⟨Y, 4, none⟩ (.slice (some ⟨g, 0, none⟩) (ms.length + 1) cap)) ⟨f.op, f.num, f.name, f.ka, f.kl, f.kc, some ⟨g, 0, none⟩, ms.length + 1, cap⟩ := by
  have hh := h
  obtain ⟨h1, h2, h3, h4, h5, h6, h7, h8, h9, h10, h11⟩ := h
  have hYl := (Array.getElem?_eq_some_iff.1 h1).1
  have hsA := hA.size
  have gS := grown_set w5 ⟨Y, 4, none⟩ (.slice (some ⟨g, 0, none⟩) (ms.length + 1) cap)
  have hY5 := (hgr.block Y (by omega) (fun e => by have := h6 Y e.symm; omega)).trans ((hA.block Y hYl).trans h1)
  have hY6 : (w5.setCell ⟨Y, 4, none⟩ (.slice (some ⟨g, 0, none⟩) (ms.length + 1) cap)).heap[Y]? = some (.cells #[.int .i64 (⟨f.op, f.num, f.name, f.ka, f.kl, f.kc, some ⟨g, 0, none⟩, ms.length + 1, cap⟩ : Fld).op, .int .i64 (⟨f.op, f.num, f.name, f.ka, f.kl, f.kc, some ⟨g, 0, none⟩, ms.length + 1, cap⟩ : Fld).num, .string (⟨f.op, f.num, f.name, f.ka, f.kl, f.kc, some ⟨g, 0, none⟩, ms.length + 1, cap⟩ : Fld).name, .slice (⟨f.op, f.num, f.name, f.ka, f.kl, f.kc, some ⟨g, 0, none⟩, ms.length + 1, cap⟩ : Fld).ka (⟨f.op, f.num, f.name, f.ka, f.kl, f.kc, some ⟨g, 0, none⟩, ms.length + 1, cap⟩ : Fld).kl (⟨f.op, f.num, f.name, f.ka, f.kl, f.kc, some ⟨g, 0, none⟩, ms.length + 1, cap⟩ : Fld).kc, .slice (⟨f.op, f.num, f.name, f.ka, f.kl, f.kc, some ⟨g, 0, none⟩, ms.length + 1, cap⟩ : Fld).ma (⟨f.op, f.num, f.name, f.ka, f.kl, f.kc, some ⟨g, 0, none⟩, ms.length + 1, cap⟩ : Fld).ml (⟨f.op, f.num, f.name, f.ka, f.kl, f.kc, some ⟨g, 0, none⟩, ms.length + 1, cap⟩ : Fld).mc] 39 (0, 0)) := by simp [World.setCell, Array.getElem?_modify, hY5]
  have hgY : g ≠ Y := by rcases hat with e | e; · have := h6 g e; omega
                         · omega
  have far : ∀ y, y < Y → y < W.heap.size → (Value.slice f.ma f.ml f.mc).ownBlock ≠ some y → (w5.setCell ⟨Y, 4, none⟩ (.slice (some ⟨g, 0, none⟩) (ms.length + 1) cap)).heap[y]? = W.heap[y]? := fun y hy hyl hyo => by
    rw [gS.block y (by have := hgr.size; omega) (by intro e; injection e with e; have : y = Y := e; omega), hgr.block y (by omega) (fun e => hyo e.symm), hA.block y hyl]
  have hown6 := own_rowKept hown gS (fun y e e2 => by injection e with e; have e' : Y = y := e; simp [Value.ownBlock] at e2; omega)
  have hsz : W.heap.size ≤ (w5.setCell ⟨Y, 4, none⟩ (.slice (some ⟨g, 0, none⟩) (ms.length + 1) cap)).heap.size := by have := gS.size; have := hgr.size; omega
  have hos : (w5.setCell ⟨Y, 4, none⟩ (.slice (some ⟨g, 0, none⟩) (ms.length + 1) cap)).os = W.os ∧ (w5.setCell ⟨Y, 4, none⟩ (.slice (some ⟨g, 0, none⟩) (ms.length + 1) cap)).tape = W.tape ∧ (w5.setCell ⟨Y, 4, none⟩ (.slice (some ⟨g, 0, none⟩) (ms.length + 1) cap)).output = W.output := ⟨gS.os.trans (hgr.os.trans hA.os), gS.tape.trans (hgr.tape.trans hA.tape), gS.output.trans (hgr.output.trans hA.output)⟩
  generalize (w5.setCell ⟨Y, 4, none⟩ (.slice (some ⟨g, 0, none⟩) (ms.length + 1) cap)) = W6 at *
  obtain ⟨z1, z2, z3⟩ := hh.after (p := p) (K := K) hsz hos (fun y hy hl => far y (by omega) hl (fun e => by have := h6 y e; omega)) hq
  rw [cellsM_snoc] at hown6
  have hlen : (ms ++ [m]).length = ms.length + 1 := by simp
  have hown7 : W6.ownsRow (rb + 1) 117 2 (.slice (some ⟨g, 0, none⟩) (ms.length + 1) cap) (ms ++ [m]).length (cellsM (ms ++ [m])) := by rw [hlen]; exact hown6
  obtain ⟨m1, m2⟩ := marksN_own hown7
  have hsame : KidsMP (fun x => C ≤ x ∧ x < Y) C W6 (.slice f.ka f.kl f.kc) ks := by
    obtain ⟨fs, k1, k2, k3⟩ := h3
    have hS : Same (fun x => C ≤ x ∧ x < Y) W W6 := ⟨hsz, fun y hy hl => far y hy.2 hl (fun e => by have := h6 y e; omega)⟩
    have hok : W6.ownsRow C 39 5 (.slice f.ka f.kl f.kc) ks.length (rowsR fs) := by
      refine ⟨k2.1, k2.2.imp id ?_⟩
      rintro ⟨g', cap', cur, q1, q2, q3, q4⟩
      have hg' := h5 g' (by rw [q1]; rfl)
      exact ⟨g', cap', cur, q1, q2, (hS.2 g' hg' (Array.getElem?_eq_some_iff.1 q3).1).trans q3, q4⟩
    refine ⟨fs, k1, hok, fun j hj => ?_⟩
    · obtain ⟨f', e1, e2⟩ := k3 j hj
      exact ⟨f', e1, e2.kept ⟨hS.1, fun y hy hl => hS.2 y hy.1 hl⟩⟩
  obtain ⟨r1, r2, r3⟩ := hsame.rows (N := fun x => rb < x) (fun x hx => by omega) (fun g hg => by omega)
  exact ⟨hY6, z1, ⟨.node f.op f.num f.name ks (ms ++ [m]), trF_iff.2 ⟨rfl, rfl, rfl, m2.mono (fun x hx => by omega), r3, r2, m1⟩, hs⟩, z2, z3, h10, h11⟩
/-- A kid put in a kid's place. -/
theorem StY.setKid {b p q q3 K S rb Y C : Nat} {w W w3 : World} {f f3 : Fld} {ks : List Tr} {ms : List (Int × Int)} {fs : List Fld} {t3 : Tr} {g cap i : Nat} (h : StY b q rb Y C w W f ks ms) (hi : i < ks.length)
    (k1 : fs.length = ks.length) (k2 : W.ownsRow C 39 5 (.slice (some ⟨g, 0, none⟩) ks.length cap) ks.length (rowsR fs)) (k3 : ∀ j, (h : j < ks.length) → ∃ f', fs[j]? = some f' ∧ TrF (fun x => (C ≤ x ∧ x < Y) ∧ (Value.slice f.ka f.kl f.kc).ownBlock ≠ some x) W ks[j] f')
    (hka : f.ka = some ⟨g, 0, none⟩ ∧ f.kl = ks.length ∧ f.kc = cap) (ht3 : TrF (fun x => W.heap.size ≤ x) w3 t3 f3) (hr3 : Rd b w3 b q3) (hg3 : W.grownBy w3 (some b)) (hs : szT (.node f.op f.num f.name (ks.set i t3) ms) ≤ S) (hq : q3 ≤ p + K) :
    EndY b p K S rb Y w (setL w3 g (i * 5) (rowR f3)) f := by
  obtain ⟨m1, m2⟩ := h.marks
  have hh := (h.grown hg3 hr3)
  have hYl := (Array.getElem?_eq_some_iff.1 h.1).1
  have hgb := h.2.2.2.2.1 g (by rw [hka.1]; rfl)
  obtain ⟨h1, h2, -, h4, h5, h6, h7, h8, h9, h10, h11⟩ := hh
  have gL := grown_setL (g := g) (rowR f3) (i * 5) w3
  have hown3 := own_rowKept k2 hg3 (fun y e e2 => by injection e with e; simp [Value.ownBlock] at e2; omega)
  have hown6 := own_setL (rowR f3) (i * 5) w3 _ hown3
  rw [rowsR_set fs i f3 (by omega)] at hown6
  have far : ∀ y, y ≠ g → y < w3.heap.size → (setL w3 g (i * 5) (rowR f3)).heap[y]? = w3.heap[y]? := fun y hy hl => gL.block y hl (by intro e; injection e with e; omega)
  have hsz := gL.size
  have hos : (setL w3 g (i * 5) (rowR f3)).os = w3.os ∧ (setL w3 g (i * 5) (rowR f3)).tape = w3.tape ∧ (setL w3 g (i * 5) (rowR f3)).output = w3.output := ⟨gL.os, gL.tape, gL.output⟩
  generalize (setL w3 g (i * 5) (rowR f3)) = W6 at *
  obtain ⟨z1, z2, z3⟩ := StY.after (p := p) (K := K) (h.grown hg3 hr3) hsz hos (fun y hy hl => far y (by omega) hl) hq
  have m3 := ((h.grown hg3 hr3).marks).2
  refine ⟨(far Y (by omega) (Array.getElem?_eq_some_iff.1 h1).1).trans h1, z1, ⟨.node f.op f.num f.name (ks.set i t3) ms, trF_iff.2 ⟨rfl, rfl, rfl, (m3.kept ⟨hsz, fun y hy hl => far y (by omega) hl⟩).mono (fun x hx => hx.1), ?_, by rw [hka.2.1, hka.2.2]; exact own_cap hown6, m1⟩, hs⟩, z2, z3, h10, h11⟩
  have hgl := (hown6.lt g rfl).2
  rw [hka.1, hka.2.1]
  have hlen : (ks.set i t3).length = ks.length := by simp
  rw [← hlen]
  refine rowsT_of (by omega) hgl fun j hj => ?_
  rw [hlen] at hj
  have key : ∀ f', (fs.set i f3)[j]? = some f' → ∀ m, m < 5 → W6.cell? ⟨g, 0 + j * 5 + m, none⟩ = (rowR f')[m]? := fun f' hf m hm => by
    have hjf := (List.getElem?_eq_some_iff.1 hf).1
    have ef : (fs.set i f3)[j] = f' := (List.getElem?_eq_some_iff.1 hf).2
    rw [Nat.zero_add, hown6.cellAt (j * 5 + m) (by omega), rowsR_get (fs.set i f3) j m hjf hm, ef]
  have fin : ∀ f', (fs.set i f3)[j]? = some f' → TrF (fun x => rb < x) W6 ((ks.set i t3)[j]'(by rw [hlen]; exact hj)) f' → ∃ f, CellsF W6 g (0 + j * 5) f ∧ TrF (fun x => rb < x) W6 ((ks.set i t3)[j]'(by rw [hlen]; exact hj)) f := fun f' hf ht => ⟨f', ⟨key f' hf 0 (by omega), key f' hf 1 (by omega), key f' hf 2 (by omega), key f' hf 3 (by omega), key f' hf 4 (by omega)⟩, ht⟩
  by_cases e : j = i
  · subst e
    refine fin f3 (by rw [List.getElem?_set_self (by omega)]) ?_
    rw [List.getElem_set_self]
    exact TrF.mono (fun x hx => by have := hx; omega) _ _ (ht3.kept ⟨hsz, fun y hy hl => far y (by omega) hl⟩)
  · obtain ⟨f', e1, e2⟩ := k3 j hj
    refine fin f' (by rw [List.getElem?_set_ne (Ne.symm e)]; exact e1) ?_
    rw [List.getElem_set_ne (Ne.symm e)]
    refine TrF.mono (fun x hx => by omega) _ _ ((e2.kept ⟨hg3.size, fun y hy hl => hg3.block y hl (fun e => by injection e with e; omega)⟩).kept ⟨hsz, fun y hy hl => far y (fun e => ?_) hl⟩)
    exact hy.2 (by rw [hka.1, e]; rfl)
theorem stPick {b q rb Y C : Nat} {w W : World} {o n m : Int} {s : ByteArray} {ka ma : Option Addr} {kl kc ml mc : Nat} {ks : List Tr} {ms : List (Int × Int)} (h : StY b q rb Y C w W ⟨o, n, s, ka, kl, kc, ma, ml, mc⟩ ks ms) (hq : q ≤ 2000000) (m1 : 1 ≤ m) (m2 : m ≤ 100) :
    Calls Tryz.prog 57 #[.pointer (some ⟨b, 0, none⟩), .int .i64 m] W (fun e W' => ∃ x : Int, 0 ≤ x ∧ x < m ∧ e = .returned (.int .i64 x) ∧ Hid (StY b (q + 1) rb Y C w W' ⟨o, n, s, ka, kl, kc, ma, ml, mc⟩ ks ms) ∧ W'.cell? ⟨Y, 4, none⟩ = some (.slice ma ml mc) ∧ (∀ ob, (W'.alloc ob).cell? ⟨Y, 4, none⟩ = some (.slice ma ml mc)) ∧ IntKind.i64.wrap (x - 1) = x - 1) := by
  refine (pick b b q m _ h.2.2.2.2.2.2.2.1 (by omega) (by omega) (by omega)).mono ?_
  rintro e w2 ⟨x, u1, u2, rfl, hr2, hg2, -⟩
  have hS := h.grown hg2 hr2
  have hY := hS.1
  exact ⟨x, u1, u2, rfl, hS, by rw [Lib.cell_of_heap hY]; rfl, fun ob => by rw [Lib.cell_of_heap ((Lib.alloc_old _ _ Y (Array.getElem?_eq_some_iff.1 hY).1).trans hY)]; rfl, IntWalk.i64_in _ (by omega)⟩
/-- A rule wrapped up in another one, again and again. -/
def WrapY (b q rb Y k z : Nat) (w W : World) (f : Fld) : Prop :=
  W.heap[Y]? = some (.cells #[.int .i64 f.op, .int .i64 f.num, .string f.name, .slice f.ka f.kl f.kc, .slice f.ma f.ml f.mc] 39 (0, 0)) ∧ W.heap[rb]? = some (.cells #[.int .i64 0, .int .i64 0, .string ⟨#[]⟩, .slice none 0 0, .slice none 0 0] 39 (0, 0)) ∧ (∃ t, TrF (fun x => rb < x ∧ x ≠ Y) W t f ∧ szT t ≤ z + 2 * k) ∧ Rd b W b q ∧ w.grownBy W (some b) ∧ w.heap.size ≤ rb ∧ b < w.heap.size ∧ rb < Y
theorem WrapY.next {b q rb Y k z : Nat} {w W : World} {f : Fld} (h : WrapY b q rb Y k z w W f) :
    WrapY b q rb Y (k + 1) z w ((W.alloc (.cells #[.int .i64 f.op, .int .i64 f.num, .string f.name, .slice f.ka f.kl f.kc, .slice f.ma f.ml f.mc, .int .i64 1, .int .i64 0, .string ⟨#[]⟩, .slice none 0 0, .slice none 0 0] 39)).setRow Y #[.int .i64 3, .int .i64 0, .string ⟨#[]⟩, .slice (some ⟨W.heap.size, 0, none⟩) 2 2, .slice none 0 0]) ⟨3, 0, ⟨#[]⟩, some ⟨W.heap.size, 0, none⟩, 2, 2, none, 0, 0⟩ := by
  obtain ⟨h1, h2, ⟨t, h3, h4⟩, h5, h6, h7, h8, h9⟩ := h
  have hYl := (Array.getElem?_eq_some_iff.1 h1).1
  have hBA : Below W.heap.size W (W.alloc (.cells #[.int .i64 f.op, .int .i64 f.num, .string f.name, .slice f.ka f.kl f.kc, .slice f.ma f.ml f.mc, .int .i64 1, .int .i64 0, .string ⟨#[]⟩, .slice none 0 0, .slice none 0 0] 39)) := (Below.refl _ _).alloc (Nat.le_refl _) _
  have hN := heap_alloc_new W (.cells #[.int .i64 f.op, .int .i64 f.num, .string f.name, .slice f.ka f.kl f.kc, .slice f.ma f.ml f.mc, .int .i64 1, .int .i64 0, .string ⟨#[]⟩, .slice none 0 0, .slice none 0 0] 39)
  generalize (W.alloc (.cells #[.int .i64 f.op, .int .i64 f.num, .string f.name, .slice f.ka f.kl f.kc, .slice f.ma f.ml f.mc, .int .i64 1, .int .i64 0, .string ⟨#[]⟩, .slice none 0 0, .slice none 0 0] 39)) = WA at *
  have hY1 := (hBA.block Y hYl).trans h1
  have hR := setRow_heap WA Y _ (#[.int .i64 3, .int .i64 0, .string ⟨#[]⟩, .slice (some ⟨W.heap.size, 0, none⟩) 2 2, .slice none 0 0]) _ _ hY1
  have gR := grown_setRowT WA Y #[.int .i64 3, .int .i64 0, .string ⟨#[]⟩, .slice (some ⟨W.heap.size, 0, none⟩) 2 2, .slice none 0 0]
  have hNl := (Array.getElem?_eq_some_iff.1 hN).1
  generalize (WA.setRow Y #[.int .i64 3, .int .i64 0, .string ⟨#[]⟩, .slice (some ⟨W.heap.size, 0, none⟩) 2 2, .slice none 0 0]) = W6 at *
  have hN6 := (gR.block W.heap.size hNl (by intro e; injection e with e; omega)).trans hN
  have hsA := hBA.size
  have hrbl := (Array.getElem?_eq_some_iff.1 h2).1
  have ht6 := (h3.kept (same_of_below hBA)).kept (same_grown gR (fun y hy => hy.2))
  refine ⟨hR, (gR.block rb (by omega) (by intro e; injection e with e; omega)).trans ((hBA.block rb hrbl).trans h2), ⟨.node 3 0 ⟨#[]⟩ [t, .node 1 0 ⟨#[]⟩ [] []] [], trF_iff.2 ⟨rfl, rfl, rfl, ⟨rfl, Or.inl rfl⟩, ?_, Nat.le_refl _, Nat.le_refl _⟩, ?_⟩, ?_, ?_, h7, h8, h9⟩
  · refine rowsT_of (ks := [t, .node 1 0 ⟨#[]⟩ [] []]) (b := W.heap.size) (off := 0) (by omega) (by have := gR.size; omega) fun j hj => ?_
    have : j = 0 ∨ j = 1 := by simp at hj; omega
    rcases this with rfl | rfl
    · refine ⟨f, ⟨?_, ?_, ?_, ?_, ?_⟩, ht6⟩ <;> (rw [Lib.cell_of_heap hN6]; rfl)
    · refine ⟨⟨1, 0, ⟨#[]⟩, none, 0, 0, none, 0, 0⟩, ⟨?_, ?_, ?_, ?_, ?_⟩, leaf_tr 1 0 ⟨#[]⟩⟩ <;> (rw [Lib.cell_of_heap hN6]; rfl)
  · have z0 : (⟨#[]⟩ : ByteArray).size = 0 := rfl
    simp only [szT, szL, List.length_cons, List.length_nil]
    omega
  · have hb := h5.le.2
    exact (h5.kept (hBA.mono (by omega)) (hBA.block b hb)).kept ((Below.refl b WA).grown gR (by omega) (fun k e => by injection e with e; omega)) (gR.block b (by omega) (by intro e; injection e with e; omega))
  · exact grown_own (grown_trans h6 (grown_any hBA)) gR (fun k e => by injection e with e; left; omega)
theorem szL_set {ks : List Tr} {i : Nat} (h : i < ks.length) (t : Tr) : szL (ks.set i t) + szT ks[i] = szL ks + szT t := by
  induction ks generalizing i with
  | nil => simp at h
  | cons x r ih =>
    cases i with
    | zero => simp only [List.set_cons_zero, szL, List.getElem_cons_zero]; omega
    | succ i =>
      have := ih (i := i) (by simpa using h)
      simp only [List.set_cons_succ, szL, List.getElem_cons_succ]; omega
def SpoilAt (t : Tr) : Prop := ∀ (f : Fld) (b p : Nat) (w : World), TrF All w t f → szT t ≤ 5000 → Rd b w b p → p + 20 * wT t ≤ 1000000 → Calls Tryz.prog 74 #[.pointer (some ⟨b, 0, none⟩), f.val] w (DrawnR b p (20 * wT t) (szT t + 12) w)
end Go.Proofs.YtjphjnopdlfplaaGreatDoor
