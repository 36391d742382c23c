/-
  Places of a program in memory: how many, a copy, whether two programs are alike.
-/
import Derived.Test.YtembapomapcdfaaDoorRuleSz
import Derived.Test.YtembapomapcdfaaDoorRuleCopy
namespace Go.Proofs.YtembapomapcdfaaDoor
open Go.RowKit
set_option linter.unusedVariables false
set_option linter.unusedSimpArgs false

/-- A place of a program. -/
structure Pl where
  op : Int
  num : Int
  nm : ByteArray
  ms : List (Int × Int)
/-- .. as it lies in memory. -/
structure FI where
  op : Int
  num : Int
  name : ByteArray
  ma : Option Addr
  ml : Nat
  mc : Nat
def FI.val (f : FI) : Value := .agg #[.int .i64 f.op, .int .i64 f.num, .string f.name, .slice f.ma f.ml f.mc]
def PlF (N : Nat → Prop) (w : World) (d : Pl) (f : FI) : Prop := f.op = d.op ∧ f.num = d.num ∧ f.name = d.nm ∧ MarksN N w f.ma f.ml d.ms ∧ f.ml ≤ f.mc
def CellsI (w : World) (b o : Nat) (f : FI) : Prop := w.cell? ⟨b, o, none⟩ = some (.int .i64 f.op) ∧ w.cell? ⟨b, o + 1, none⟩ = some (.int .i64 f.num) ∧ w.cell? ⟨b, o + 2, none⟩ = some (.string f.name) ∧ w.cell? ⟨b, o + 3, none⟩ = some (.slice f.ma f.ml f.mc)
def PlsN (N : Nat → Prop) (w : World) (a : Option Addr) (n : Nat) (ds : List Pl) : Prop := n = ds.length ∧ (n = 0 ∨ ∃ b off, a = some ⟨b, off, none⟩ ∧ N b ∧ b < w.heap.size ∧ ∀ j, (hj : j < ds.length) → ∃ f, CellsI w b (off + j * 4) f ∧ PlF N w ds[j] f)
theorem PlF.kept {N : Nat → Prop} {w w' : World} {d : Pl} {f : FI} (h : PlF N w d f) (s : Same N w w') : PlF N w' d f := ⟨h.1, h.2.1, h.2.2.1, h.2.2.2.1.kept s, h.2.2.2.2⟩
theorem PlF.mono {N N' : Nat → Prop} (hN : ∀ b, N b → N' b) {w : World} {d : Pl} {f : FI} (h : PlF N w d f) : PlF N' w d f := ⟨h.1, h.2.1, h.2.2.1, h.2.2.2.1.mono hN, h.2.2.2.2⟩
theorem CellsI.kept {w w' : World} {b o : Nat} {f : FI} (h : CellsI w b o f) (e : w'.heap[b]? = w.heap[b]?) : CellsI w' b o f :=
  ⟨(World.cell?_of_block (a := ⟨b, o, none⟩) e).trans h.1, (World.cell?_of_block (a := ⟨b, o + 1, none⟩) e).trans h.2.1, (World.cell?_of_block (a := ⟨b, o + 2, none⟩) e).trans h.2.2.1, (World.cell?_of_block (a := ⟨b, o + 3, none⟩) e).trans h.2.2.2⟩
theorem PlsN.kept {N : Nat → Prop} {w w' : World} {a : Option Addr} {n : Nat} {ds : List Pl} (h : PlsN N w a n ds) (s : Same N w w') : PlsN N w' a n ds := by
  obtain ⟨h1, h2⟩ := h
  refine ⟨h1, ?_⟩
  rcases h2 with h | ⟨b, off, k1, k2, k3, k4⟩
  · exact Or.inl h
  · refine Or.inr ⟨b, off, k1, k2, Nat.lt_of_lt_of_le k3 s.1, fun j hj => ?_⟩
    obtain ⟨f, c, t⟩ := k4 j hj
    exact ⟨f, c.kept (s.2 b k2 k3), t.kept s⟩
theorem PlsN.mono {N N' : Nat → Prop} (hN : ∀ b, N b → N' b) {w : World} {a : Option Addr} {n : Nat} {ds : List Pl} (h : PlsN N w a n ds) : PlsN N' w a n ds := by
  obtain ⟨h1, h2⟩ := h
  refine ⟨h1, ?_⟩
  rcases h2 with h | ⟨b, off, k1, k2, k3, k4⟩
  · exact Or.inl h
  · refine Or.inr ⟨b, off, k1, hN b k2, k3, fun j hj => ?_⟩
    obtain ⟨f, c, t⟩ := k4 j hj
    exact ⟨f, c, t.mono hN⟩
theorem PlsN.cells {N : Nat → Prop} {w : World} {a : Option Addr} {n : Nat} {ds : List Pl} (h : PlsN N w a n ds) (h0 : 0 < n) : ∃ b off, a = some ⟨b, off, none⟩ ∧ N b ∧ b < w.heap.size ∧ ∀ j, (hj : j < ds.length) → ∃ f, CellsI w b (off + j * 4) f ∧ PlF N w ds[j] f := by
  obtain ⟨-, h2 | h2⟩ := h
  · omega
  · exact h2
def WideP (d : Pl) : Prop := d.nm.size ≤ maxLen ∧ d.ms.length ≤ maxLen
def SmallP (d : Pl) : Prop := d.nm.size ≤ 1048576 ∧ d.ms.length ≤ 1048576
set_option maxHeartbeats 4000000 in
theorem szPl (d : Pl) (f : FI) (lf : Int) (w : World) (h : PlF All w d f) (hw : WideP d) (l0 : 0 ≤ lf) (l1 : lf ≤ 1048576) :
    Calls Tryd.prog 52 #[f.val, .int .i64 lf] w (SzP (d.nm.size + d.ms.length) lf w) := by
  obtain ⟨e1, e2, e3, hm, hc2⟩ := h
  obtain ⟨hs, hml⟩ := hw
  obtain ⟨o, n, s, ms⟩ := d
  obtain ⟨fo, fn, fs, ma, ml, mc⟩ := f
  dsimp only at e1 e2 e3 hm hc2 hs hml ⊢
  subst e1 e2 e3
  obtain rfl := hm.1
  clear hm
  unfold maxLen at hs hml
  unfold FI.val
  dsimp only
  have e0 : IntKind.i64.wrap (lf - (fs.size : Int)) = lf - (fs.size : Int) := IntWalk.i64_in _ (by omega)
  have hB : Below w.heap.size w (w.alloc (.cells #[Value.int IntKind.i64 fo, Value.int IntKind.i64 fn, Value.string fs, Value.slice ma ms.length mc] 67)) := (Below.refl _ _).alloc (Nat.le_refl _) _
  have HB := Lib.hid hB
  clear hB
  rcases Int.lt_or_le (lf - (fs.size : Int)) 0 with c0 | c0
  · have z0 : decide (lf - (fs.size : Int) < 0) = true := decide_eq_true c0
    go_enter Tryd.func52, Tryd.ntmps52
    go_wp2
    go_ret
    exact ⟨-1, by omega, by omega, rfl, fun h => by omega, HB.out⟩
  have z0 : decide (lf - (fs.size : Int) < 0) = false := decide_eq_false (by omega)
  go_enter Tryd.func52, Tryd.ntmps52
  go_wp2_with fail
  refine (szMarkL ma ms.length mc (lf - fs.size) _ (by omega) c0 (by omega)).mono ?_
  rintro e w2 ⟨q, hq, rfl, rfl⟩
  rcases hq with ⟨h1, rfl⟩ | ⟨h1, rfl⟩
  · have g1 : decide (lf - (fs.size : Int) - (ms.length : Int) < 0) = false := decide_eq_false (by omega)
    go_wp2
    go_ret
    exact ⟨lf - fs.size - ms.length, by omega, by omega, rfl, fun _ => by omega, HB.out⟩
  · go_wp2
    go_ret
    exact ⟨-1, by omega, by omega, rfl, fun h => by omega, HB.out⟩
/-- What is left of the room, if it served for all. -/
def SzD (ds : List Pl) (lf : Int) (w : World) (e : Ending) (w' : World) : Prop := ∃ r : Int, -1 ≤ r ∧ r ≤ lf ∧ e = .returned (.int .i64 r) ∧ Hid (0 ≤ r → (ds.length : Int) ≤ lf ∧ ∀ d ∈ ds, SmallP d) ∧ Below w.heap.size w w'
set_option maxHeartbeats 4000000 in
theorem szPls (a : Option Addr) (n cap : Nat) (ds : List Pl) (lf : Int) (w : World) (h : PlsN All w a n ds) (hw : ∀ d ∈ ds, WideP d) (hl : n ≤ maxLen) (l0 : 0 ≤ lf) (l1 : lf ≤ 1048576) :
    Calls Tryd.prog 25 #[.slice a n cap, .int .i64 lf] w (SzD ds lf w) := by
  have hlm : (n : Int) ≤ 9223372036854775807 := by unfold maxLen at hl; omega
  have e0 : IntKind.i64.wrap (lf - (n : Int)) = lf - (n : Int) := IntWalk.i64_in _ (by omega)
  have H := Lib.hid h
  have HW := Lib.hid hw
  have HN : Hid (n = ds.length) := h.1
  clear h hw hl
  rcases Int.lt_or_le (lf - (n : Int)) 0 with h1 | h1
  · have z0 : decide (lf - (n : Int) < 0) = true := decide_eq_true h1
    go_enter Tryd.func25, Tryd.ntmps25
    go_wp2
    go_ret
    exact ⟨-1, by omega, by omega, rfl, fun h => by omega, Below.refl _ _⟩
  · have z0 : decide (lf - (n : Int) < 0) = false := decide_eq_false (by omega)
    go_enter Tryd.func25, Tryd.ntmps25
    go_wp2_with fail
    go_loopw [1, 5] (fun vl vi wr => ∃ (k : Nat) (l : Int), k ≤ n ∧ vi = .int .i64 k ∧ vl = .int .i64 l ∧ 0 ≤ l ∧ l ≤ lf - n ∧ Hid (∀ j, j < k → (hj : j < ds.length) → SmallP ds[j]) ∧ Below w.heap.size w wr) (fun _ vi _ => n - (intOf vi).toNat)
    case atStart => exact ⟨0, lf - n, Nat.zero_le _, rfl, rfl, h1, Int.le_refl _, fun j hj => absurd hj (Nat.not_lt_zero _), Below.refl _ _⟩
    case round =>
      obtain ⟨k, l, hk, rfl, rfl, g0, g1, hsm, hb⟩ := hrel
      rcases Nat.lt_or_ge k n with hlt | hge
      · have hkl : k < ds.length := by have := HN.out; omega
        obtain ⟨b, off, rfl, -, hbl, hrow⟩ := (H.out.kept (same_of_below (N := All) hb)).cells (by omega)
        obtain ⟨f, ⟨y0, y1, y2, y3⟩, ht⟩ := hrow k hkl
        have hz := Lib.hid (szPl ds[k] f l wr ht (HW.out _ (List.getElem_mem _)) g0 (by omega))
        clear hrow ht
        unfold FI.val at hz
        have k1 : (k : Int) < n := by omega
        have k0 : (0 : Int) ≤ k := by omega
        go_wp2_with fail
        refine hz.out.mono ?_
        rintro e w2 ⟨r, q0, q1, rfl, hr, hb2⟩
        have hb3 : Below w.heap.size w w2 := hb.trans (hb2.mono hb.size)
        clear y0 y1 y2 y3 hb2
        rcases Int.lt_or_le r 0 with c | c
        · have zr : decide (r < 0) = true := decide_eq_true c
          go_wp2
          go_ret
          exact ⟨-1, by omega, by omega, rfl, fun h => by omega, hb3⟩
        · have zr : decide (r < 0) = false := decide_eq_false (by omega)
          have hS : Hid (SmallP ds[k]) := by have := hr.out c; show _ ∧ _; omega
          clear hr
          go_wp2
          go_roundw
          case rel => exact ⟨k + 1, r, by omega, by go_num, rfl, c, by omega, fun j hj hjl => by
            by_cases e : j = k
            · subst e; exact hS.out
            · exact hsm.out j (by omega) hjl, hb3⟩
          case measure => simp [intOf]; omega
      · obtain rfl : k = n := by omega
        have hpost : Hid (∀ d ∈ ds, SmallP d) := fun d hd => by
          obtain ⟨j, hj, rfl⟩ := List.getElem_of_mem hd
          exact hsm.out j (by have := HN.out; omega) hj
        have hnn := HN.out
        go_wp2
        go_ret
        exact ⟨l, by omega, by omega, rfl, fun h => ⟨by have := HN.out; omega, hpost.out⟩, hb⟩
set_option maxHeartbeats 4000000 in
theorem eqPl (d : Pl) (f g : FI) (w : World) (h : PlF All w d f) (h' : PlF All w d g) (hs : SmallP d) : Calls Tryd.prog 47 #[f.val, g.val] w fun e w' => e = .returned (.bool true) ∧ Below w.heap.size w w' := by
  obtain ⟨e1, e2, e3, hm, -⟩ := h
  obtain ⟨e1', e2', e3', hm', -⟩ := h'
  obtain ⟨o, n, s, ms⟩ := d
  obtain ⟨fo, fn, fs, ma, ml, mc⟩ := f
  obtain ⟨go, gn, gs, ma', ml', mc'⟩ := g
  dsimp only at e1 e2 e3 hm e1' e2' e3' hm'
  have q1 := e1.symm
  have q2 := e2.symm
  have q3 := e3.symm
  have q4 := e1'.symm
  have q5 := e2'.symm
  have q6 := e3'.symm
  clear e1 e2 e3 e1' e2' e3'
  subst q1 q2 q3 q4 q5 q6
  obtain rfl := hm.1
  obtain rfl := hm'.1
  have hml : ms.length ≤ 1048576 := hs.2
  have HM := Lib.hid hm
  have HM' := Lib.hid hm'
  clear hm hm' hs
  unfold FI.val
  dsimp only
  have q1 : (s.toList != s.toList) = false := by simp
  have hArg : ((w.alloc (.cells #[Value.int IntKind.i64 o, Value.int IntKind.i64 n, Value.string s, Value.slice ma ms.length mc] 61)).alloc (.cells #[Value.int IntKind.i64 o, Value.int IntKind.i64 n, Value.string s, Value.slice ma' ms.length mc'] 61)).heap[w.heap.size]? = some (.cells #[Value.int IntKind.i64 o, Value.int IntKind.i64 n, Value.string s, Value.slice ma ms.length mc] 61 (0, 0)) := by
    rw [Lib.alloc_old _ _ _ (by simp only [World.size_alloc]; omega)]
    exact heap_alloc_new w _
  have hArg' : ((w.alloc (.cells #[Value.int IntKind.i64 o, Value.int IntKind.i64 n, Value.string s, Value.slice ma ms.length mc] 61)).alloc (.cells #[Value.int IntKind.i64 o, Value.int IntKind.i64 n, Value.string s, Value.slice ma' ms.length mc'] 61)).heap[w.heap.size + 1]? = some (.cells #[Value.int IntKind.i64 o, Value.int IntKind.i64 n, Value.string s, Value.slice ma' ms.length mc'] 61 (0, 0)) := by
    have := heap_alloc_new (w.alloc (.cells #[Value.int IntKind.i64 o, Value.int IntKind.i64 n, Value.string s, Value.slice ma ms.length mc] 61)) (.cells #[Value.int IntKind.i64 o, Value.int IntKind.i64 n, Value.string s, Value.slice ma' ms.length mc'] 61)
    simpa only [World.size_alloc] using this
  have hB : Below w.heap.size w ((w.alloc (.cells #[Value.int IntKind.i64 o, Value.int IntKind.i64 n, Value.string s, Value.slice ma ms.length mc] 61)).alloc (.cells #[Value.int IntKind.i64 o, Value.int IntKind.i64 n, Value.string s, Value.slice ma' ms.length mc'] 61)) := ((Below.refl _ _).alloc (Nat.le_refl _) _).alloc (by simp only [World.size_alloc]; omega) _
  have ca : ((w.alloc (.cells #[Value.int IntKind.i64 o, Value.int IntKind.i64 n, Value.string s, Value.slice ma ms.length mc] 61)).alloc (.cells #[Value.int IntKind.i64 o, Value.int IntKind.i64 n, Value.string s, Value.slice ma' ms.length mc'] 61)).cell? ⟨w.heap.size, 3, none⟩ = some (Value.slice ma ms.length mc) := by rw [Lib.cell_of_heap hArg]; rfl
  have ca' : ((w.alloc (.cells #[Value.int IntKind.i64 o, Value.int IntKind.i64 n, Value.string s, Value.slice ma ms.length mc] 61)).alloc (.cells #[Value.int IntKind.i64 o, Value.int IntKind.i64 n, Value.string s, Value.slice ma' ms.length mc'] 61)).cell? ⟨w.heap.size + 1, 3, none⟩ = some (Value.slice ma' ms.length mc') := by rw [Lib.cell_of_heap hArg']; rfl
  have hq := Lib.hid (eqMarks ma ma' ms.length mc mc' (mF ms) (mP ms) _ (marks_of_N (HM.out.kept (same_of_below hB))) (marks_of_N (HM'.out.kept (same_of_below hB))) hml)
  have HB := Lib.hid hB
  clear hArg hArg' hB
  go_enter Tryd.func47, Tryd.ntmps47
  go_wp2_with fail
  refine hq.out.mono ?_
  rintro e w2 ⟨rfl, d2⟩
  go_wp2
  go_ret
  exact ⟨rfl, HB.out.trans (d2.mono HB.out.size)⟩
set_option maxHeartbeats 4000000 in
theorem eqPls (a a' : Option Addr) (n cap cap' : Nat) (ds : List Pl) (w : World) (h : PlsN All w a n ds) (h' : PlsN All w a' n ds) (hs : ∀ d ∈ ds, SmallP d) (hl : n ≤ 1048576) :
    Calls Tryd.prog 21 #[.slice a n cap, .slice a' n cap'] w fun e w' => e = .returned (.bool true) ∧ Below w.heap.size w w' := by
  have H := Lib.hid h
  have H' := Lib.hid h'
  have HS := Lib.hid hs
  have HN : Hid (n = ds.length) := h.1
  clear h h' hs
  go_enter Tryd.func21, Tryd.ntmps21
  go_wp2_with fail
  go_loopw [5] (fun i wr => ∃ k : Nat, k ≤ n ∧ i = .int .i64 k ∧ Below w.heap.size w wr) (fun i _ => n - (intOf i).toNat)
  case atStart => exact ⟨0, Nat.zero_le _, rfl, Below.refl _ _⟩
  case round =>
    obtain ⟨k, hk, rfl, hb⟩ := hrel
    rcases Nat.lt_or_ge k n with hlt | hge
    · have hkl : k < ds.length := by have := HN.out; omega
      obtain ⟨b, off, rfl, -, hbl, hrow⟩ := (H.out.kept (same_of_below (N := All) hb)).cells (by omega)
      obtain ⟨f, ⟨y0, y1, y2, y3⟩, ht⟩ := hrow k hkl
      obtain ⟨b', off', rfl, -, hbl', hrow'⟩ := (H'.out.kept (same_of_below (N := All) hb)).cells (by omega)
      obtain ⟨f', ⟨x0, x1, x2, x3⟩, ht'⟩ := hrow' k hkl
      have HT := Lib.hid ht
      have HT' := Lib.hid ht'
      have k1 : (k : Int) < n := by omega
      have k0 : (0 : Int) ≤ k := by omega
      clear hrow hbl ht hrow' hbl' ht'
      go_wp2_with fail
      go_region_with (go_at_call 47; refine (eqPl ds[k] f f' _ (HT.out.kept (same_of_below (belowN (Below.refl _ wr) 1))) (HT'.out.kept (same_of_below (belowN (Below.refl _ wr) 1))) (HS.out _ (List.getElem_mem _))).mono ?_; rintro e w2 ⟨rfl, hb2⟩)
      all_goals
        have hb3 : Below w.heap.size w w2 := hb.trans (Below.trans (belowN (Below.refl _ _) 1) (hb2.mono hb.size))
        clear y0 y1 y2 y3 x0 x1 x2 x3
        go_wp2
        go_roundw
        case rel => exact ⟨k + 1, by omega, by go_num, hb3⟩
        case measure => simp [intOf]; omega
    · obtain rfl : k = n := by omega
      go_wp2
      go_ret
      exact ⟨rfl, hb⟩
end Go.Proofs.YtembapomapcdfaaDoor
