/-
  Rules in memory: rows of kids, what stays where blocks stay; no law is proved here.
  How large a rule is, and that two rules that read alike are alike.
  A copy of a rule, in memory of its own.
  Places of a program in memory: how many, a copy, whether two programs are alike.
  A copy of a program.
  How many kids an op has: the model's answer.
  Whether a rule has just what it needs, but for its kids: the model's answer.
-/
import Derived.Test.YtjhgmmcglonokaaGreatDoorRuleMath
import Derived.Test.YtjhgmmcglonokaaGreatDoorMarksLaw
import Derived.Test.YtjhgmmcglonokaaGreatDoorPutL
import Derived.Test.YtjhgmmcglonokaaGreatDoorJ18
namespace Go.Proofs.YtjhgmmcglonokaaGreatDoor
open Go.RowKit
set_option linter.unusedVariables false
set_option linter.unusedSimpArgs false

def All : Nat → Prop := fun _ => True
def RowsT (N : Nat → Prop) (w : World) (a : Option Addr) (n : Nat) (ks : List Tr) : Prop := n = ks.length ∧ (ks.length = 0 ∨ ∃ b off, a = some ⟨b, off, none⟩ ∧ N b ∧ b < w.heap.size ∧ RowF N w b off ks 0)
theorem trF_iff {N : Nat → Prop} {w : World} {o n : Int} {s : ByteArray} {ks : List Tr} {ms : List (Int × Int)} {f : Fld} : TrF N w (.node o n s ks ms) f ↔ f.op = o ∧ f.num = n ∧ f.name = s ∧ MarksN N w f.ma f.ml ms ∧ RowsT N w f.ka f.kl ks ∧ f.kl ≤ f.kc ∧ f.ml ≤ f.mc := by
  rw [TrF]
  constructor
  · rintro ⟨h1, h2, h3, h4, h7, h5, h6⟩; exact ⟨h1, h2, h3, h5, ⟨h4, h6⟩, h7⟩
  · rintro ⟨h1, h2, h3, h5, ⟨h4, h6⟩, h7⟩; exact ⟨h1, h2, h3, h4, h7, h5, h6⟩
theorem same_of_below {N : Nat → Prop} {w w' : World} (h : Below w.heap.size w w') : Same N w w' := ⟨h.size, fun b _ hb => h.block b hb⟩
theorem Same.refl (N : Nat → Prop) (w : World) : Same N w w := ⟨Nat.le_refl _, fun _ _ _ => rfl⟩
theorem Same.trans {N : Nat → Prop} {a b c : World} (h : Same N a b) (k : Same N b c) : Same N a c := ⟨Nat.le_trans h.1 k.1, fun x hx hl => (k.2 x hx (Nat.lt_of_lt_of_le hl h.1)).trans (h.2 x hx hl)⟩
theorem same_grown {N : Nat → Prop} {w w' : World} {g : Nat} (h : w.grownBy w' (some g)) (hN : ∀ b, N b → b ≠ g) : Same N w w' := ⟨h.size, fun b hb hl => h.block b hl (by intro e; simp only [Option.some.injEq] at e; exact hN b hb e)⟩
theorem RowsT.kept {N : Nat → Prop} {w w' : World} (s : Same N w w') {a : Option Addr} {n : Nat} {ks : List Tr} (h : RowsT N w a n ks) : RowsT N w' a n ks := by
  obtain ⟨h1, h2⟩ := h
  refine ⟨h1, ?_⟩
  rcases h2 with h | ⟨b, off, k1, k2, k3, k4⟩
  · exact Or.inl h
  · exact Or.inr ⟨b, off, k1, k2, Nat.lt_of_lt_of_le k3 s.1, RowF.kept s b off (s.2 b k2 k3) ks 0 k4⟩
theorem RowsT.cells {N : Nat → Prop} {w : World} {a : Option Addr} {n : Nat} {ks : List Tr} (h : RowsT N w a n ks) (h0 : 0 < n) : ∃ b off, a = some ⟨b, off, none⟩ ∧ N b ∧ b < w.heap.size ∧ ∀ j, (hj : j < ks.length) → ∃ f, CellsF w b (off + j * 5) f ∧ TrF N w ks[j] f := by
  obtain ⟨h1, h2⟩ := h
  rcases h2 with h | ⟨b, off, k1, k2, k3, k4⟩
  · omega
  · refine ⟨b, off, k1, k2, k3, fun j hj => ?_⟩
    have := rowF_get ks 0 j k4 hj
    rw [Nat.zero_add] at this
    exact this
theorem rowsT_of {N : Nat → Prop} {w : World} {b off : Nat} {ks : List Tr} (hN : N b) (hb : b < w.heap.size) (h : ∀ j, (hj : j < ks.length) → ∃ f, CellsF w b (off + j * 5) f ∧ TrF N w ks[j] f) : RowsT N w (some ⟨b, off, none⟩) ks.length ks :=
  ⟨rfl, Or.inr ⟨b, off, rfl, hN, hb, rowF_of ks 0 (fun j hj => by rw [Nat.zero_add]; exact h j hj)⟩⟩
theorem MarksN.mono {N N' : Nat → Prop} (hN : ∀ b, N b → N' b) {w : World} {a : Option Addr} {len : Nat} {ms : List (Int × Int)} (h : MarksN N w a len ms) : MarksN N' w a len ms := by
  obtain ⟨h1, h2⟩ := h
  refine ⟨h1, ?_⟩
  rcases h2 with h | ⟨b, off, k1, k2, k3, k4⟩
  · exact Or.inl h
  · exact Or.inr ⟨b, off, k1, hN b k2, k3, k4⟩
mutual
theorem TrF.mono {N N' : Nat → Prop} (hN : ∀ b, N b → N' b) {w : World} : ∀ (t : Tr) (f : Fld), TrF N w t f → TrF N' w t f
  | .node o n nm ks ms, f, h => by
    rw [TrF] at h ⊢
    obtain ⟨h1, h2, h3, h4, h7, h5, h6⟩ := h
    refine ⟨h1, h2, h3, h4, h7, h5.mono hN, ?_⟩
    rcases h6 with h | ⟨b, off, k1, k2, k3, k4⟩
    · exact Or.inl h
    · exact Or.inr ⟨b, off, k1, hN b k2, k3, RowF.mono hN b off ks 0 k4⟩
theorem RowF.mono {N N' : Nat → Prop} (hN : ∀ b, N b → N' b) {w : World} (b off : Nat) : ∀ (ks : List Tr) (i : Nat), RowF N w b off ks i → RowF N' w b off ks i
  | [], i, h => by rw [RowF]; trivial
  | t :: r, i, h => by
    rw [RowF] at h ⊢
    obtain ⟨⟨f, h1, h2⟩, h3⟩ := h
    exact ⟨⟨f, h1, TrF.mono hN t f h2⟩, RowF.mono hN b off r (i + 1) h3⟩
end
theorem marks_of_N {N : Nat → Prop} {w : World} {a : Option Addr} {len : Nat} {ms : List (Int × Int)} (h : MarksN N w a len ms) : Marks w a len (mF ms) (mP ms) := by
  obtain ⟨h1, h2⟩ := h
  rcases h2 with h | ⟨b, off, k1, k2, k3, k4⟩
  · exact Or.inl h
  · exact Or.inr ⟨b, off, k1, k3, k4⟩
theorem szL_mem : ∀ {ks : List Tr} {t : Tr}, t ∈ ks → szT t ≤ szL ks
  | [], t, h => by simp at h
  | x :: r, t, h => by
    rw [szL]
    rcases List.mem_cons.1 h with rfl | h
    · omega
    · have := szL_mem h; omega
end Go.Proofs.YtjhgmmcglonokaaGreatDoor

namespace Go.Proofs.YtjhgmmcglonokaaGreatDoor
open Go.RowKit
set_option linter.unusedVariables false
set_option linter.unusedSimpArgs false

end Go.Proofs.YtjhgmmcglonokaaGreatDoor

namespace Go.Proofs.YtjhgmmcglonokaaGreatDoor
open Go.RowKit
set_option linter.unusedVariables false
set_option linter.unusedSimpArgs false

theorem lt_heapT {w : World} {b : Nat} {o : Obj} (h : w.heap[b]? = some o) : b < w.heap.size := (Array.getElem?_eq_some_iff.1 h).1
theorem grown_setRowT (w : World) (g : Nat) (cs : Array Value) : w.grownBy (w.setRow g cs) (some g) := ⟨rfl, rfl, rfl, by simp, fun k _ hne => setRow_other w g k cs (by intro e; subst e; exact hne rfl)⟩
theorem RowsT.mono {N N' : Nat → Prop} (hN : ∀ b, N b → N' b) {w : World} {a : Option Addr} {n : Nat} {ks : List Tr} (h : RowsT N w a n ks) : RowsT N' w a n ks := by
  obtain ⟨h1, h2⟩ := h
  refine ⟨h1, ?_⟩
  rcases h2 with h | ⟨b, off, k1, k2, k3, k4⟩
  · exact Or.inl h
  · exact Or.inr ⟨b, off, k1, hN b k2, k3, RowF.mono hN b off ks 0 k4⟩
end Go.Proofs.YtjhgmmcglonokaaGreatDoor

namespace Go.Proofs.YtjhgmmcglonokaaGreatDoor
open Go.RowKit
set_option linter.unusedVariables false
set_option linter.unusedSimpArgs false

/-- A place of a program. -/
structure Pl where
  op : Int
  num : Int
  nm : ByteArray
  ms : List (Int × Int)
/-- .. as it lies in memory. -/
structure FI where
  op : Int
  num : Int
  name : ByteArray
  ma : Option Addr
  ml : Nat
  mc : Nat
def FI.val (f : FI) : Value := .agg #[.int .i64 f.op, .int .i64 f.num, .string f.name, .slice f.ma f.ml f.mc]
def PlF (N : Nat → Prop) (w : World) (d : Pl) (f : FI) : Prop := f.op = d.op ∧ f.num = d.num ∧ f.name = d.nm ∧ MarksN N w f.ma f.ml d.ms ∧ f.ml ≤ f.mc
def CellsI (w : World) (b o : Nat) (f : FI) : Prop := w.cell? ⟨b, o, none⟩ = some (.int .i64 f.op) ∧ w.cell? ⟨b, o + 1, none⟩ = some (.int .i64 f.num) ∧ w.cell? ⟨b, o + 2, none⟩ = some (.string f.name) ∧ w.cell? ⟨b, o + 3, none⟩ = some (.slice f.ma f.ml f.mc)
def PlsN (N : Nat → Prop) (w : World) (a : Option Addr) (n : Nat) (ds : List Pl) : Prop := n = ds.length ∧ (n = 0 ∨ ∃ b off, a = some ⟨b, off, none⟩ ∧ N b ∧ b < w.heap.size ∧ ∀ j, (hj : j < ds.length) → ∃ f, CellsI w b (off + j * 4) f ∧ PlF N w ds[j] f)
theorem PlF.kept {N : Nat → Prop} {w w' : World} {d : Pl} {f : FI} (h : PlF N w d f) (s : Same N w w') : PlF N w' d f := ⟨h.1, h.2.1, h.2.2.1, h.2.2.2.1.kept s, h.2.2.2.2⟩
theorem PlF.mono {N N' : Nat → Prop} (hN : ∀ b, N b → N' b) {w : World} {d : Pl} {f : FI} (h : PlF N w d f) : PlF N' w d f := ⟨h.1, h.2.1, h.2.2.1, h.2.2.2.1.mono hN, h.2.2.2.2⟩
theorem CellsI.kept {w w' : World} {b o : Nat} {f : FI} (h : CellsI w b o f) (e : w'.heap[b]? = w.heap[b]?) : CellsI w' b o f :=
  ⟨(World.cell?_of_block (a := ⟨b, o, none⟩) e).trans h.1, (World.cell?_of_block (a := ⟨b, o + 1, none⟩) e).trans h.2.1, (World.cell?_of_block (a := ⟨b, o + 2, none⟩) e).trans h.2.2.1, (World.cell?_of_block (a := ⟨b, o + 3, none⟩) e).trans h.2.2.2⟩
theorem PlsN.kept {N : Nat → Prop} {w w' : World} {a : Option Addr} {n : Nat} {ds : List Pl} (h : PlsN N w a n ds) (s : Same N w w') : PlsN N w' a n ds := by
  obtain ⟨h1, h2⟩ := h
  refine ⟨h1, ?_⟩
  rcases h2 with h | ⟨b, off, k1, k2, k3, k4⟩
  · exact Or.inl h
  · refine Or.inr ⟨b, off, k1, k2, Nat.lt_of_lt_of_le k3 s.1, fun j hj => ?_⟩
    obtain ⟨f, c, t⟩ := k4 j hj
    exact ⟨f, c.kept (s.2 b k2 k3), t.kept s⟩
theorem PlsN.mono {N N' : Nat → Prop} (hN : ∀ b, N b → N' b) {w : World} {a : Option Addr} {n : Nat} {ds : List Pl} (h : PlsN N w a n ds) : PlsN N' w a n ds := by
  obtain ⟨h1, h2⟩ := h
  refine ⟨h1, ?_⟩
  rcases h2 with h | ⟨b, off, k1, k2, k3, k4⟩
  · exact Or.inl h
  · refine Or.inr ⟨b, off, k1, hN b k2, k3, fun j hj => ?_⟩
    obtain ⟨f, c, t⟩ := k4 j hj
    exact ⟨f, c, t.mono hN⟩
theorem PlsN.cells {N : Nat → Prop} {w : World} {a : Option Addr} {n : Nat} {ds : List Pl} (h : PlsN N w a n ds) (h0 : 0 < n) : ∃ b off, a = some ⟨b, off, none⟩ ∧ N b ∧ b < w.heap.size ∧ ∀ j, (hj : j < ds.length) → ∃ f, CellsI w b (off + j * 4) f ∧ PlF N w ds[j] f := by
  obtain ⟨-, h2 | h2⟩ := h
  · omega
  · exact h2
def SmallP (d : Pl) : Prop := d.nm.size ≤ 1048576 ∧ d.ms.length ≤ 1048576
set_option maxHeartbeats 4000000 in
theorem eqPl (d : Pl) (f g : FI) (w : World) (h : PlF All w d f) (h' : PlF All w d g) (hs : SmallP d) : Calls Tryz.prog 37 #[f.val, g.val] w fun e w' => e = .returned (.bool true) ∧ Below w.heap.size w w' := by
  obtain ⟨e1, e2, e3, hm, -⟩ := h
  obtain ⟨e1', e2', e3', hm', -⟩ := h'
  obtain ⟨o, n, s, ms⟩ := d
  obtain ⟨fo, fn, fs, ma, ml, mc⟩ := f
  obtain ⟨go, gn, gs, ma', ml', mc'⟩ := g
  dsimp only at e1 e2 e3 hm e1' e2' e3' hm'
  have q1 := e1.symm
  have q2 := e2.symm
  have q3 := e3.symm
  have q4 := e1'.symm
  have q5 := e2'.symm
  have q6 := e3'.symm
  clear e1 e2 e3 e1' e2' e3'
  subst q1 q2 q3 q4 q5 q6
  obtain rfl := hm.1
  obtain rfl := hm'.1
  have hml : ms.length ≤ 1048576 := hs.2
  have HM := Lib.hid hm
  have HM' := Lib.hid hm'
  clear hm hm' hs
  unfold FI.val
  dsimp only
  have q1 : (s.toList != s.toList) = false := by simp
  have hArg : ((w.alloc (.cells #[Value.int IntKind.i64 o, Value.int IntKind.i64 n, Value.string s, Value.slice ma ms.length mc] 48)).alloc (.cells #[Value.int IntKind.i64 o, Value.int IntKind.i64 n, Value.string s, Value.slice ma' ms.length mc'] 48)).heap[w.heap.size]? = some (.cells #[Value.int IntKind.i64 o, Value.int IntKind.i64 n, Value.string s, Value.slice ma ms.length mc] 48 (0, 0)) := by
    rw [Lib.alloc_old _ _ _ (by simp only [World.size_alloc]; omega)]
    exact heap_alloc_new w _
  have hArg' : ((w.alloc (.cells #[Value.int IntKind.i64 o, Value.int IntKind.i64 n, Value.string s, Value.slice ma ms.length mc] 48)).alloc (.cells #[Value.int IntKind.i64 o, Value.int IntKind.i64 n, Value.string s, Value.slice ma' ms.length mc'] 48)).heap[w.heap.size + 1]? = some (.cells #[Value.int IntKind.i64 o, Value.int IntKind.i64 n, Value.string s, Value.slice ma' ms.length mc'] 48 (0, 0)) := by
    have := heap_alloc_new (w.alloc (.cells #[Value.int IntKind.i64 o, Value.int IntKind.i64 n, Value.string s, Value.slice ma ms.length mc] 48)) (.cells #[Value.int IntKind.i64 o, Value.int IntKind.i64 n, Value.string s, Value.slice ma' ms.length mc'] 48)
    simpa only [World.size_alloc] using this
  have hB : Below w.heap.size w ((w.alloc (.cells #[Value.int IntKind.i64 o, Value.int IntKind.i64 n, Value.string s, Value.slice ma ms.length mc] 48)).alloc (.cells #[Value.int IntKind.i64 o, Value.int IntKind.i64 n, Value.string s, Value.slice ma' ms.length mc'] 48)) := ((Below.refl _ _).alloc (Nat.le_refl _) _).alloc (by simp only [World.size_alloc]; omega) _
  have ca : ((w.alloc (.cells #[Value.int IntKind.i64 o, Value.int IntKind.i64 n, Value.string s, Value.slice ma ms.length mc] 48)).alloc (.cells #[Value.int IntKind.i64 o, Value.int IntKind.i64 n, Value.string s, Value.slice ma' ms.length mc'] 48)).cell? ⟨w.heap.size, 3, none⟩ = some (Value.slice ma ms.length mc) := by rw [Lib.cell_of_heap hArg]; rfl
  have ca' : ((w.alloc (.cells #[Value.int IntKind.i64 o, Value.int IntKind.i64 n, Value.string s, Value.slice ma ms.length mc] 48)).alloc (.cells #[Value.int IntKind.i64 o, Value.int IntKind.i64 n, Value.string s, Value.slice ma' ms.length mc'] 48)).cell? ⟨w.heap.size + 1, 3, none⟩ = some (Value.slice ma' ms.length mc') := by rw [Lib.cell_of_heap hArg']; rfl
  have hq := Lib.hid (eqMarks ma ma' ms.length mc mc' (mF ms) (mP ms) _ (marks_of_N (HM.out.kept (same_of_below hB))) (marks_of_N (HM'.out.kept (same_of_below hB))) hml)
  have HB := Lib.hid hB
  clear hArg hArg' hB
  go_enter Tryz.func37, Tryz.ntmps37
  go_wp2_with fail
  refine hq.out.mono ?_
  rintro e w2 ⟨rfl, d2⟩
  go_wp2
  go_ret
  exact ⟨rfl, HB.out.trans (d2.mono HB.out.size)⟩
set_option maxHeartbeats 4000000 in
theorem eqPls (a a' : Option Addr) (n cap cap' : Nat) (ds : List Pl) (w : World) (h : PlsN All w a n ds) (h' : PlsN All w a' n ds) (hs : ∀ d ∈ ds, SmallP d) (hl : n ≤ 1048576) :
    Calls Tryz.prog 9 #[.slice a n cap, .slice a' n cap'] w fun e w' => e = .returned (.bool true) ∧ Below w.heap.size w w' := by
  have H := Lib.hid h
  have H' := Lib.hid h'
  have HS := Lib.hid hs
  have HN : Hid (n = ds.length) := h.1
  clear h h' hs
  go_enter Tryz.func9, Tryz.ntmps9
  go_wp2_with fail
  go_loopw [5] (fun i wr => ∃ k : Nat, k ≤ n ∧ i = .int .i64 k ∧ Below w.heap.size w wr) (fun i _ => n - (intOf i).toNat)
  case atStart => exact ⟨0, Nat.zero_le _, rfl, Below.refl _ _⟩
  case round =>
    obtain ⟨k, hk, rfl, hb⟩ := hrel
    rcases Nat.lt_or_ge k n with hlt | hge
    · have hkl : k < ds.length := by have := HN.out; omega
      obtain ⟨b, off, rfl, -, hbl, hrow⟩ := (H.out.kept (same_of_below (N := All) hb)).cells (by omega)
      obtain ⟨f, ⟨y0, y1, y2, y3⟩, ht⟩ := hrow k hkl
      obtain ⟨b', off', rfl, -, hbl', hrow'⟩ := (H'.out.kept (same_of_below (N := All) hb)).cells (by omega)
      obtain ⟨f', ⟨x0, x1, x2, x3⟩, ht'⟩ := hrow' k hkl
      have HT := Lib.hid ht
      have HT' := Lib.hid ht'
      have k1 : (k : Int) < n := by omega
      have k0 : (0 : Int) ≤ k := by omega
      clear hrow hbl ht hrow' hbl' ht'
      go_wp2_with fail
      go_region_with (go_at_call 37; refine (eqPl ds[k] f f' _ (HT.out.kept (same_of_below (belowN (Below.refl _ wr) 1))) (HT'.out.kept (same_of_below (belowN (Below.refl _ wr) 1))) (HS.out _ (List.getElem_mem _))).mono ?_; rintro e w2 ⟨rfl, hb2⟩)
      all_goals
        have hb3 : Below w.heap.size w w2 := hb.trans (Below.trans (belowN (Below.refl _ _) 1) (hb2.mono hb.size))
        clear y0 y1 y2 y3 x0 x1 x2 x3
        go_wp2
        go_roundw
        case rel => exact ⟨k + 1, by omega, by go_num, hb3⟩
        case measure => simp [intOf]; omega
    · obtain rfl : k = n := by omega
      go_wp2
      go_ret
      exact ⟨rfl, hb⟩
end Go.Proofs.YtjhgmmcglonokaaGreatDoor

namespace Go.Proofs.YtjhgmmcglonokaaGreatDoor
open Go.RowKit
set_option linter.unusedVariables false
set_option linter.unusedSimpArgs false

theorem insSize : (Tryz.prog.info? 48).map (·.size) = some 4 := by kernel_rfl
theorem infoIns : (Tryz.prog.info? 48).map (fun i => (i.zero, i.size, i.bytes)) = some (some (.agg #[.int .i64 0, .int .i64 0, .string ⟨#[]⟩, .slice none 0 0]), 4, 56) := by kernel_rfl
end Go.Proofs.YtjhgmmcglonokaaGreatDoor

namespace Go.Proofs.YtjhgmmcglonokaaGreatDoor
open Go.RowKit
set_option linter.unusedVariables false
set_option linter.unusedSimpArgs false

set_option maxHeartbeats 1000000 in
theorem specKids (o : Int) (w : World) :
    Calls Tryz.prog 89 #[.int .i64 o] w fun e w' => e = .returned (.int .i64 (kidsN o)) ∧ w = w' := by
  by_cases h1 : o = 1
  · subst h1; go_enter Tryz.func89, Tryz.ntmps89
    go_wp2
    go_ret
    exact ⟨rfl, rfl⟩
  by_cases h2 : o = 2
  · subst h2; go_enter Tryz.func89, Tryz.ntmps89
    go_wp2
    go_ret
    exact ⟨rfl, rfl⟩
  by_cases h3 : o = 10
  · subst h3; go_enter Tryz.func89, Tryz.ntmps89
    go_wp2
    go_ret
    exact ⟨rfl, rfl⟩
  by_cases h4 : o = 6
  · subst h4; go_enter Tryz.func89, Tryz.ntmps89
    go_wp2
    go_ret
    exact ⟨rfl, rfl⟩
  by_cases h5 : o = 9
  · subst h5; go_enter Tryz.func89, Tryz.ntmps89
    go_wp2
    go_ret
    exact ⟨rfl, rfl⟩
  have e1 : (o == 1) = false := by simpa using h1
  have e2 : (o == 2) = false := by simpa using h2
  have e3 : (o == 10) = false := by simpa using h3
  have e4 : (o == 6) = false := by simpa using h4
  have e5 : (o == 9) = false := by simpa using h5
  by_cases h6 : 3 ≤ o ∧ o ≤ 8
  · have hr : kidsN o = 2 := by unfold kidsN; rw [if_neg (by omega), if_neg h3, if_neg h4, if_neg h5, if_pos h6]
    rw [hr]
    have : o = 3 ∨ o = 4 ∨ o = 5 ∨ o = 7 ∨ o = 8 := by omega
    clear hr h1 h2 h3 h4 h5 h6
    rcases this with rfl | rfl | rfl | rfl | rfl
    all_goals
      go_enter Tryz.func89, Tryz.ntmps89
      go_wp2
      go_ret
      exact ⟨rfl, rfl⟩
  · have hr : kidsN o = -1 := by unfold kidsN; rw [if_neg (by omega), if_neg h3, if_neg h4, if_neg h5, if_neg h6]
    rw [hr]
    have f3 : (o == 3) = false := by simp; omega
    have f4 : (o == 4) = false := by simp; omega
    have f5 : (o == 5) = false := by simp; omega
    have f7 : (o == 7) = false := by simp; omega
    have f8 : (o == 8) = false := by simp; omega
    clear hr h1 h2 h3 h4 h5 h6
    go_enter Tryz.func89, Tryz.ntmps89
    go_wp2
    go_ret
    exact ⟨rfl, rfl⟩
theorem specKidsQ (o : Int) (w : World) (v : Int) (h : kidsN o = v) :
    Calls Tryz.prog 89 #[.int .i64 o] w fun e w' => e = .returned (.int .i64 v) ∧ w' = w := by
  subst h; exact (specKids o w).mono fun e w' h => ⟨h.1, h.2.symm⟩
end Go.Proofs.YtjhgmmcglonokaaGreatDoor

namespace Go.Proofs.YtjhgmmcglonokaaGreatDoor
open Go.RowKit
set_option linter.unusedVariables false
set_option linter.unusedSimpArgs false

theorem str_empty {s : ByteArray} (h : s.toList.isEmpty = true) : s.size = 0 := by
  have : s.toList = [] := by simpa using h
  rw [Lib.toList_data] at this
  have e : s.data.toList.length = s.size := by simp
  rw [this] at e
  exact e.symm
theorem str_full {s : ByteArray} (h : s.toList.isEmpty = false) : s.size ≠ 0 := by
  intro h0
  have : s.toList = [] := by
    rw [Lib.toList_data]
    have : s.data = #[] := Array.eq_empty_of_size_eq_zero h0
    rw [this]
  rw [this] at h
  cases h
theorem opCases (o : Int) : o = 1 ∨ o = 2 ∨ o = 10 ∨ (o ≠ 1 ∧ o ≠ 2 ∧ o ≠ 10) := by omega
def BoolP (p : Prop) (w : World) (e : Ending) (w' : World) : Prop := ∃ b : Bool, e = .returned (.bool b) ∧ Hid (b = true ↔ p) ∧ Below w.heap.size w w'
theorem specInZ (n a b : Int) (w : World) : Calls Tryz.prog 50 #[.int .i64 n, .int .i64 a, .int .i64 b] w fun e w' => e = .returned (.bool (decide (a ≤ n) && decide (n ≤ b))) ∧ w = w' := specIn n a b w
set_option maxRecDepth 20000 in
set_option maxHeartbeats 16000000 in
theorem specPlain (o n : Int) (s : ByteArray) (ka ma : Option Addr) (k kc m mc : Nat) (ms : List (Int × Int)) (w : World) (hs : s.size ≤ maxLen) (hk : k ≤ 1048576) (hm : MarksN All w ma m ms) (hml : m ≤ 1048576) :
    Calls Tryz.prog 104 #[.agg #[.int .i64 o, .int .i64 n, .string s, .slice ka k kc, .slice ma m mc]] w (BoolP (PlainN o n s k ms) w) := by
  have hA : Below w.heap.size w (w.alloc (.cells #[.int .i64 o, .int .i64 n, .string s, .slice ka k kc, .slice ma m mc] 37)) := (Below.refl _ _).alloc (Nat.le_refl _) _
  have HA := Lib.hid hA
  have HM := Lib.hid hm
  have HMl : Hid (m = ms.length) := hm.1
  clear hA hm
  cases hk0 : ((k : Int) != kidsN o) with
  | true =>
    have hno : Hid (¬ PlainN o n s k ms) := fun h => by have := h.1; simp [this] at hk0
    have hq : Hid (kidsN o = kidsN o) := rfl
    generalize hkn : kidsN o = kn at *
    have Hkn := Lib.hid hkn
    clear hkn
    go_enter Tryz.func104, Tryz.ntmps104
    go_wp2_with fail
    go_quiet (first | (go_at_call 89; refine Calls.quiet_of_same (specKidsQ _ _ kn Hkn.out)))
    go_wp2
    go_ret
    exact ⟨false, rfl, ⟨fun h => (by cases h), fun h => absurd h hno.out⟩, belowN HA.out nq⟩
  | false =>
    have hkids : Hid ((k : Int) = kidsN o) := by show _ = _; simpa using hk0
    have hmb : decide (0 < (m : Int)) = decide (0 < m) := by simp
    cases hs0 : s.toList.isEmpty with
    | true =>
      have hsz := Lib.hid (str_empty hs0)
      cases hn0 : (n != 0) with
      | true =>
        have hnz : Hid (n ≠ 0) := by show _ ≠ _; simpa using hn0
        cases hm0 : decide (0 < m) with
        | true =>
          have hmp : Hid (0 < m) := by show 0 < m; simpa using hm0
          rcases opCases o with ho | ho | ho | ho
          · subst ho
            have e1 : kidsN 1 = 0 := rfl
            have Hkn := Lib.hid e1
            have hk1 : ((k : Int) != 0) = false := hk0
            clear e1
            have hno : Hid (¬ PlainN 1 n s k ms) := fun h => by
              have h2 := h.2
              unfold HoldsN at h2
              rw [if_pos rfl] at h2; have a1 := hsz.out; have a2 := hmp.out; have a3 := HMl.out; have a4 := h2.2.1; have a5 := h2.2.2; omega
            go_enter Tryz.func104, Tryz.ntmps104
            go_wp2_with fail
            go_quiet (first | (go_at_call 89; refine Calls.quiet_of_same (specKidsQ _ _ _ Hkn.out)))
            go_wp2
            go_ret
            exact ⟨false, rfl, ⟨fun h => (by cases h), fun h => absurd h hno.out⟩, belowN HA.out nq⟩
          · subst ho
            have e1 : kidsN 2 = 0 := rfl
            have Hkn := Lib.hid e1
            have hk1 : ((k : Int) != 0) = false := hk0
            clear e1
            have hno : Hid (¬ PlainN 2 n s k ms) := fun h => by
              have h2 := h.2
              unfold HoldsN at h2
              rw [if_neg (by decide), if_pos rfl] at h2; have a1 := hnz.out; have a2 := hmp.out; have a3 := HMl.out; have a4 := h2.2.1; have a5 := h2.2.2; omega
            go_enter Tryz.func104, Tryz.ntmps104
            go_wp2_with fail
            go_quiet (first | (go_at_call 89; refine Calls.quiet_of_same (specKidsQ _ _ _ Hkn.out)))
            go_wp2
            go_ret
            exact ⟨false, rfl, ⟨fun h => (by cases h), fun h => absurd h hno.out⟩, belowN HA.out nq⟩
          · subst ho
            have e1 : kidsN 10 = 1 := rfl
            have Hkn := Lib.hid e1
            have hk1 : ((k : Int) != 1) = false := hk0
            clear e1
            have hno : Hid (¬ PlainN 10 n s k ms) := fun h => by
              have h2 := h.2
              unfold HoldsN at h2
              rw [if_neg (by decide), if_neg (by decide), if_pos rfl] at h2; have a1 := hnz.out; have a2 := hsz.out; have a4 := h2.1; have a5 := h2.2.1; omega
            go_enter Tryz.func104, Tryz.ntmps104
            go_wp2_with fail
            go_quiet (first | (go_at_call 89; refine Calls.quiet_of_same (specKidsQ _ _ _ Hkn.out)))
            go_wp2
            go_ret
            exact ⟨false, rfl, ⟨fun h => (by cases h), fun h => absurd h hno.out⟩, belowN HA.out nq⟩
          · obtain ⟨o1, o2, o10⟩ := ho
            have b1 : (o == 1) = false := by simpa using o1
            have b2 : (o == 2) = false := by simpa using o2
            have b3 : (o == 10) = false := by simpa using o10
            have b4 : (o != 1) = true := by simpa using o1
            have b5 : (o != 2) = true := by simpa using o2
            have b6 : (o != 10) = true := by simpa using o10
            have HO := Lib.hid (And.intro o1 (And.intro o2 o10))
            clear o1 o2 o10
            generalize hkn : kidsN o = kn at *
            have Hkn := Lib.hid hkn
            clear hkn
            have hno : Hid (¬ PlainN o n s k ms) := fun h => by
              have h2 := h.2
              unfold HoldsN at h2
              rw [if_neg HO.out.1, if_neg HO.out.2.1, if_neg HO.out.2.2] at h2; have a1 := hsz.out; have a2 := hmp.out; have a3 := HMl.out; have a4 := hnz.out; have a5 := h2.1; have a6 := h2.2.1; have a7 := h2.2.2; omega
            go_enter Tryz.func104, Tryz.ntmps104
            go_wp2_with fail
            go_quiet (first | (go_at_call 89; refine Calls.quiet_of_same (specKidsQ _ _ _ Hkn.out)))
            go_wp2
            go_ret
            exact ⟨false, rfl, ⟨fun h => (by cases h), fun h => absurd h hno.out⟩, belowN HA.out nq⟩
        | false =>
          have hmp : Hid (m = 0) := by show _ = _; simp at hm0; exact hm0
          rcases opCases o with ho | ho | ho | ho
          · subst ho
            have e1 : kidsN 1 = 0 := rfl
            have Hkn := Lib.hid e1
            have hk1 : ((k : Int) != 0) = false := hk0
            clear e1
            go_enter Tryz.func104, Tryz.ntmps104
            go_wp2_with fail
            go_quiet (first | (go_at_call 89; refine Calls.quiet_of_same (specKidsQ _ _ _ Hkn.out)))
            go_wp2_with fail
            refine (specInZ n (-1000000000) 1000000000 _).mono ?_
            rintro e w' ⟨rfl, rfl⟩
            go_wp2
            go_ret
            refine ⟨_, rfl, ?_, belowN HA.out nq⟩
            have a1 := hsz.out
            have a2 := hmp.out
            have a3 := HMl.out
            have a4 := hkids.out
            show _ ↔ _
            unfold PlainN HoldsN
            rw [if_pos rfl]
            simp only [Bool.and_eq_true, decide_eq_true_eq]
            exact ⟨fun h => ⟨a4, h, a1, by omega⟩, fun h => h.2.1⟩
          · subst ho
            have e1 : kidsN 2 = 0 := rfl
            have Hkn := Lib.hid e1
            have hk1 : ((k : Int) != 0) = false := hk0
            clear e1
            have hno : Hid (¬ PlainN 2 n s k ms) := fun h => by
              have h2 := h.2
              unfold HoldsN at h2
              rw [if_neg (by decide), if_pos rfl] at h2; have a1 := hnz.out; have a2 := hmp.out; have a3 := HMl.out; have a4 := h2.2.1; have a5 := h2.2.2; omega
            go_enter Tryz.func104, Tryz.ntmps104
            go_wp2_with fail
            go_quiet (first | (go_at_call 89; refine Calls.quiet_of_same (specKidsQ _ _ _ Hkn.out)))
            go_wp2
            go_ret
            exact ⟨false, rfl, ⟨fun h => (by cases h), fun h => absurd h hno.out⟩, belowN HA.out nq⟩
          · subst ho
            have e1 : kidsN 10 = 1 := rfl
            have Hkn := Lib.hid e1
            have hk1 : ((k : Int) != 1) = false := hk0
            clear e1
            have hno : Hid (¬ PlainN 10 n s k ms) := fun h => by
              have h2 := h.2
              unfold HoldsN at h2
              rw [if_neg (by decide), if_neg (by decide), if_pos rfl] at h2; have a1 := hnz.out; have a2 := hsz.out; have a4 := h2.1; have a5 := h2.2.1; omega
            go_enter Tryz.func104, Tryz.ntmps104
            go_wp2_with fail
            go_quiet (first | (go_at_call 89; refine Calls.quiet_of_same (specKidsQ _ _ _ Hkn.out)))
            go_wp2
            go_ret
            exact ⟨false, rfl, ⟨fun h => (by cases h), fun h => absurd h hno.out⟩, belowN HA.out nq⟩
          · obtain ⟨o1, o2, o10⟩ := ho
            have b1 : (o == 1) = false := by simpa using o1
            have b2 : (o == 2) = false := by simpa using o2
            have b3 : (o == 10) = false := by simpa using o10
            have b4 : (o != 1) = true := by simpa using o1
            have b5 : (o != 2) = true := by simpa using o2
            have b6 : (o != 10) = true := by simpa using o10
            have HO := Lib.hid (And.intro o1 (And.intro o2 o10))
            clear o1 o2 o10
            generalize hkn : kidsN o = kn at *
            have Hkn := Lib.hid hkn
            clear hkn
            have hno : Hid (¬ PlainN o n s k ms) := fun h => by
              have h2 := h.2
              unfold HoldsN at h2
              rw [if_neg HO.out.1, if_neg HO.out.2.1, if_neg HO.out.2.2] at h2; have a1 := hsz.out; have a2 := hmp.out; have a3 := HMl.out; have a4 := hnz.out; have a5 := h2.1; have a6 := h2.2.1; have a7 := h2.2.2; omega
            go_enter Tryz.func104, Tryz.ntmps104
            go_wp2_with fail
            go_quiet (first | (go_at_call 89; refine Calls.quiet_of_same (specKidsQ _ _ _ Hkn.out)))
            go_wp2
            go_ret
            exact ⟨false, rfl, ⟨fun h => (by cases h), fun h => absurd h hno.out⟩, belowN HA.out nq⟩
      | false =>
        have hnz : Hid (n = 0) := by show _ = _; simpa using hn0
        cases hm0 : decide (0 < m) with
        | true =>
          have hmp : Hid (0 < m) := by show 0 < m; simpa using hm0
          rcases opCases o with ho | ho | ho | ho
          · subst ho
            have e1 : kidsN 1 = 0 := rfl
            have Hkn := Lib.hid e1
            have hk1 : ((k : Int) != 0) = false := hk0
            clear e1
            have hno : Hid (¬ PlainN 1 n s k ms) := fun h => by
              have h2 := h.2
              unfold HoldsN at h2
              rw [if_pos rfl] at h2; have a1 := hsz.out; have a2 := hmp.out; have a3 := HMl.out; have a4 := h2.2.1; have a5 := h2.2.2; omega
            go_enter Tryz.func104, Tryz.ntmps104
            go_wp2_with fail
            go_quiet (first | (go_at_call 89; refine Calls.quiet_of_same (specKidsQ _ _ _ Hkn.out)))
            go_wp2
            go_ret
            exact ⟨false, rfl, ⟨fun h => (by cases h), fun h => absurd h hno.out⟩, belowN HA.out nq⟩
          · subst ho
            have e1 : kidsN 2 = 0 := rfl
            have Hkn := Lib.hid e1
            have hk1 : ((k : Int) != 0) = false := hk0
            clear e1
            have hno : Hid (¬ PlainN 2 n s k ms) := fun h => by
              have h2 := h.2
              unfold HoldsN at h2
              rw [if_neg (by decide), if_pos rfl] at h2; have a1 := hnz.out; have a2 := hmp.out; have a3 := HMl.out; have a4 := h2.2.1; have a5 := h2.2.2; omega
            go_enter Tryz.func104, Tryz.ntmps104
            go_wp2_with fail
            go_quiet (first | (go_at_call 89; refine Calls.quiet_of_same (specKidsQ _ _ _ Hkn.out)))
            go_wp2
            go_ret
            exact ⟨false, rfl, ⟨fun h => (by cases h), fun h => absurd h hno.out⟩, belowN HA.out nq⟩
          · subst ho
            have e1 : kidsN 10 = 1 := rfl
            have Hkn := Lib.hid e1
            have hk1 : ((k : Int) != 1) = false := hk0
            clear e1
            go_enter Tryz.func104, Tryz.ntmps104
            go_wp2_with fail
            go_quiet (first | (go_at_call 89; refine Calls.quiet_of_same (specKidsQ _ _ _ Hkn.out)))
            go_wp2_with fail
            refine (specMarksOk ma m mc (mF ms) (mP ms) _ (marks_of_N (HM.out.kept (same_of_below (belowN HA.out nq)))) hml).mono ?_
            rintro e w1 ⟨b, rfl, hb, d1⟩
            have Hb : Hid (b = true ↔ MOk (mF ms) (mP ms) m) := hb
            clear hb
            go_wp2
            go_ret
            refine ⟨b, rfl, ?_, (belowN HA.out nq).trans (d1.mono (belowN HA.out nq).size)⟩
            have a1 := hnz.out
            have a2 := hsz.out
            have a3 := HMl.out
            have a4 := hkids.out
            show _ ↔ _
            unfold PlainN HoldsN
            rw [if_neg (by decide), if_neg (by decide), if_pos rfl, ← a3]
            exact ⟨fun h => ⟨a4, a1, a2, Hb.out.1 h⟩, fun h => Hb.out.2 h.2.2.2⟩
          · obtain ⟨o1, o2, o10⟩ := ho
            have b1 : (o == 1) = false := by simpa using o1
            have b2 : (o == 2) = false := by simpa using o2
            have b3 : (o == 10) = false := by simpa using o10
            have b4 : (o != 1) = true := by simpa using o1
            have b5 : (o != 2) = true := by simpa using o2
            have b6 : (o != 10) = true := by simpa using o10
            have HO := Lib.hid (And.intro o1 (And.intro o2 o10))
            clear o1 o2 o10
            generalize hkn : kidsN o = kn at *
            have Hkn := Lib.hid hkn
            clear hkn
            have hno : Hid (¬ PlainN o n s k ms) := fun h => by
              have h2 := h.2
              unfold HoldsN at h2
              rw [if_neg HO.out.1, if_neg HO.out.2.1, if_neg HO.out.2.2] at h2; have a1 := hsz.out; have a2 := hmp.out; have a3 := HMl.out; have a4 := hnz.out; have a5 := h2.1; have a6 := h2.2.1; have a7 := h2.2.2; omega
            go_enter Tryz.func104, Tryz.ntmps104
            go_wp2_with fail
            go_quiet (first | (go_at_call 89; refine Calls.quiet_of_same (specKidsQ _ _ _ Hkn.out)))
            go_wp2
            go_ret
            exact ⟨false, rfl, ⟨fun h => (by cases h), fun h => absurd h hno.out⟩, belowN HA.out nq⟩
        | false =>
          have hmp : Hid (m = 0) := by show _ = _; simp at hm0; exact hm0
          rcases opCases o with ho | ho | ho | ho
          · subst ho
            have e1 : kidsN 1 = 0 := rfl
            have Hkn := Lib.hid e1
            have hk1 : ((k : Int) != 0) = false := hk0
            clear e1
            go_enter Tryz.func104, Tryz.ntmps104
            go_wp2_with fail
            go_quiet (first | (go_at_call 89; refine Calls.quiet_of_same (specKidsQ _ _ _ Hkn.out)))
            go_wp2_with fail
            refine (specInZ n (-1000000000) 1000000000 _).mono ?_
            rintro e w' ⟨rfl, rfl⟩
            go_wp2
            go_ret
            refine ⟨_, rfl, ?_, belowN HA.out nq⟩
            have a1 := hsz.out
            have a2 := hmp.out
            have a3 := HMl.out
            have a4 := hkids.out
            show _ ↔ _
            unfold PlainN HoldsN
            rw [if_pos rfl]
            simp only [Bool.and_eq_true, decide_eq_true_eq]
            exact ⟨fun h => ⟨a4, h, a1, by omega⟩, fun h => h.2.1⟩
          · subst ho
            have e1 : kidsN 2 = 0 := rfl
            have Hkn := Lib.hid e1
            have hk1 : ((k : Int) != 0) = false := hk0
            clear e1
            go_enter Tryz.func104, Tryz.ntmps104
            go_wp2_with fail
            go_quiet (first | (go_at_call 89; refine Calls.quiet_of_same (specKidsQ _ _ _ Hkn.out)))
            go_wp2_with fail
            refine (specName s _ hs).mono ?_
            rintro e w' ⟨rfl, rfl⟩
            go_wp2
            go_ret
            refine ⟨_, rfl, ?_, belowN HA.out nq⟩
            have a1 := hnz.out
            have a2 := hmp.out
            have a3 := HMl.out
            have a4 := hkids.out
            show _ ↔ _
            unfold PlainN HoldsN
            rw [if_neg (by decide), if_pos rfl]
            exact ⟨fun h => ⟨a4, h, a1, by omega⟩, fun h => h.2.1⟩
          · subst ho
            have e1 : kidsN 10 = 1 := rfl
            have Hkn := Lib.hid e1
            have hk1 : ((k : Int) != 1) = false := hk0
            clear e1
            go_enter Tryz.func104, Tryz.ntmps104
            go_wp2_with fail
            go_quiet (first | (go_at_call 89; refine Calls.quiet_of_same (specKidsQ _ _ _ Hkn.out)))
            go_wp2_with fail
            refine (specMarksOk ma m mc (mF ms) (mP ms) _ (marks_of_N (HM.out.kept (same_of_below (belowN HA.out nq)))) hml).mono ?_
            rintro e w1 ⟨b, rfl, hb, d1⟩
            have Hb : Hid (b = true ↔ MOk (mF ms) (mP ms) m) := hb
            clear hb
            go_wp2
            go_ret
            refine ⟨b, rfl, ?_, (belowN HA.out nq).trans (d1.mono (belowN HA.out nq).size)⟩
            have a1 := hnz.out
            have a2 := hsz.out
            have a3 := HMl.out
            have a4 := hkids.out
            show _ ↔ _
            unfold PlainN HoldsN
            rw [if_neg (by decide), if_neg (by decide), if_pos rfl, ← a3]
            exact ⟨fun h => ⟨a4, a1, a2, Hb.out.1 h⟩, fun h => Hb.out.2 h.2.2.2⟩
          · obtain ⟨o1, o2, o10⟩ := ho
            have b1 : (o == 1) = false := by simpa using o1
            have b2 : (o == 2) = false := by simpa using o2
            have b3 : (o == 10) = false := by simpa using o10
            have b4 : (o != 1) = true := by simpa using o1
            have b5 : (o != 2) = true := by simpa using o2
            have b6 : (o != 10) = true := by simpa using o10
            have HO := Lib.hid (And.intro o1 (And.intro o2 o10))
            clear o1 o2 o10
            generalize hkn : kidsN o = kn at *
            have Hkn := Lib.hid hkn
            clear hkn
            go_enter Tryz.func104, Tryz.ntmps104
            go_wp2_with fail
            go_quiet (first | (go_at_call 89; refine Calls.quiet_of_same (specKidsQ _ _ _ Hkn.out)))
            go_wp2
            go_ret
            exact ⟨true, rfl, ⟨fun _ => ⟨by rw [Hkn.out]; exact hkids.out, by unfold HoldsN; rw [if_neg HO.out.1, if_neg HO.out.2.1, if_neg HO.out.2.2]; have a1 := hsz.out; have a2 := hmp.out; have a3 := HMl.out; exact ⟨hnz.out, a1, by omega⟩⟩, fun _ => rfl⟩, belowN HA.out nq⟩
    | false =>
      have hsz := Lib.hid (str_full hs0)
      cases hn0 : (n != 0) with
      | true =>
        have hnz : Hid (n ≠ 0) := by show _ ≠ _; simpa using hn0
        cases hm0 : decide (0 < m) with
        | true =>
          have hmp : Hid (0 < m) := by show 0 < m; simpa using hm0
          rcases opCases o with ho | ho | ho | ho
          · subst ho
            have e1 : kidsN 1 = 0 := rfl
            have Hkn := Lib.hid e1
            have hk1 : ((k : Int) != 0) = false := hk0
            clear e1
            have hno : Hid (¬ PlainN 1 n s k ms) := fun h => by
              have h2 := h.2
              unfold HoldsN at h2
              rw [if_pos rfl] at h2; have a1 := hsz.out; have a2 := hmp.out; have a3 := HMl.out; have a4 := h2.2.1; have a5 := h2.2.2; omega
            go_enter Tryz.func104, Tryz.ntmps104
            go_wp2_with fail
            go_quiet (first | (go_at_call 89; refine Calls.quiet_of_same (specKidsQ _ _ _ Hkn.out)))
            go_wp2
            go_ret
            exact ⟨false, rfl, ⟨fun h => (by cases h), fun h => absurd h hno.out⟩, belowN HA.out nq⟩
          · subst ho
            have e1 : kidsN 2 = 0 := rfl
            have Hkn := Lib.hid e1
            have hk1 : ((k : Int) != 0) = false := hk0
            clear e1
            have hno : Hid (¬ PlainN 2 n s k ms) := fun h => by
              have h2 := h.2
              unfold HoldsN at h2
              rw [if_neg (by decide), if_pos rfl] at h2; have a1 := hnz.out; have a2 := hmp.out; have a3 := HMl.out; have a4 := h2.2.1; have a5 := h2.2.2; omega
            go_enter Tryz.func104, Tryz.ntmps104
            go_wp2_with fail
            go_quiet (first | (go_at_call 89; refine Calls.quiet_of_same (specKidsQ _ _ _ Hkn.out)))
            go_wp2
            go_ret
            exact ⟨false, rfl, ⟨fun h => (by cases h), fun h => absurd h hno.out⟩, belowN HA.out nq⟩
          · subst ho
            have e1 : kidsN 10 = 1 := rfl
            have Hkn := Lib.hid e1
            have hk1 : ((k : Int) != 1) = false := hk0
            clear e1
            have hno : Hid (¬ PlainN 10 n s k ms) := fun h => by
              have h2 := h.2
              unfold HoldsN at h2
              rw [if_neg (by decide), if_neg (by decide), if_pos rfl] at h2; have a1 := hnz.out; have a2 := hsz.out; have a4 := h2.1; have a5 := h2.2.1; omega
            go_enter Tryz.func104, Tryz.ntmps104
            go_wp2_with fail
            go_quiet (first | (go_at_call 89; refine Calls.quiet_of_same (specKidsQ _ _ _ Hkn.out)))
            go_wp2
            go_ret
            exact ⟨false, rfl, ⟨fun h => (by cases h), fun h => absurd h hno.out⟩, belowN HA.out nq⟩
          · obtain ⟨o1, o2, o10⟩ := ho
            have b1 : (o == 1) = false := by simpa using o1
            have b2 : (o == 2) = false := by simpa using o2
            have b3 : (o == 10) = false := by simpa using o10
            have b4 : (o != 1) = true := by simpa using o1
            have b5 : (o != 2) = true := by simpa using o2
            have b6 : (o != 10) = true := by simpa using o10
            have HO := Lib.hid (And.intro o1 (And.intro o2 o10))
            clear o1 o2 o10
            generalize hkn : kidsN o = kn at *
            have Hkn := Lib.hid hkn
            clear hkn
            have hno : Hid (¬ PlainN o n s k ms) := fun h => by
              have h2 := h.2
              unfold HoldsN at h2
              rw [if_neg HO.out.1, if_neg HO.out.2.1, if_neg HO.out.2.2] at h2; have a1 := hsz.out; have a2 := hmp.out; have a3 := HMl.out; have a4 := hnz.out; have a5 := h2.1; have a6 := h2.2.1; have a7 := h2.2.2; omega
            go_enter Tryz.func104, Tryz.ntmps104
            go_wp2_with fail
            go_quiet (first | (go_at_call 89; refine Calls.quiet_of_same (specKidsQ _ _ _ Hkn.out)))
            go_wp2
            go_ret
            exact ⟨false, rfl, ⟨fun h => (by cases h), fun h => absurd h hno.out⟩, belowN HA.out nq⟩
        | false =>
          have hmp : Hid (m = 0) := by show _ = _; simp at hm0; exact hm0
          rcases opCases o with ho | ho | ho | ho
          · subst ho
            have e1 : kidsN 1 = 0 := rfl
            have Hkn := Lib.hid e1
            have hk1 : ((k : Int) != 0) = false := hk0
            clear e1
            have hno : Hid (¬ PlainN 1 n s k ms) := fun h => by
              have h2 := h.2
              unfold HoldsN at h2
              rw [if_pos rfl] at h2; have a1 := hsz.out; have a2 := hmp.out; have a3 := HMl.out; have a4 := h2.2.1; have a5 := h2.2.2; omega
            go_enter Tryz.func104, Tryz.ntmps104
            go_wp2_with fail
            go_quiet (first | (go_at_call 89; refine Calls.quiet_of_same (specKidsQ _ _ _ Hkn.out)))
            go_wp2
            go_ret
            exact ⟨false, rfl, ⟨fun h => (by cases h), fun h => absurd h hno.out⟩, belowN HA.out nq⟩
          · subst ho
            have e1 : kidsN 2 = 0 := rfl
            have Hkn := Lib.hid e1
            have hk1 : ((k : Int) != 0) = false := hk0
            clear e1
            have hno : Hid (¬ PlainN 2 n s k ms) := fun h => by
              have h2 := h.2
              unfold HoldsN at h2
              rw [if_neg (by decide), if_pos rfl] at h2; have a1 := hnz.out; have a2 := hmp.out; have a3 := HMl.out; have a4 := h2.2.1; have a5 := h2.2.2; omega
            go_enter Tryz.func104, Tryz.ntmps104
            go_wp2_with fail
            go_quiet (first | (go_at_call 89; refine Calls.quiet_of_same (specKidsQ _ _ _ Hkn.out)))
            go_wp2
            go_ret
            exact ⟨false, rfl, ⟨fun h => (by cases h), fun h => absurd h hno.out⟩, belowN HA.out nq⟩
          · subst ho
            have e1 : kidsN 10 = 1 := rfl
            have Hkn := Lib.hid e1
            have hk1 : ((k : Int) != 1) = false := hk0
            clear e1
            have hno : Hid (¬ PlainN 10 n s k ms) := fun h => by
              have h2 := h.2
              unfold HoldsN at h2
              rw [if_neg (by decide), if_neg (by decide), if_pos rfl] at h2; have a1 := hnz.out; have a2 := hsz.out; have a4 := h2.1; have a5 := h2.2.1; omega
            go_enter Tryz.func104, Tryz.ntmps104
            go_wp2_with fail
            go_quiet (first | (go_at_call 89; refine Calls.quiet_of_same (specKidsQ _ _ _ Hkn.out)))
            go_wp2
            go_ret
            exact ⟨false, rfl, ⟨fun h => (by cases h), fun h => absurd h hno.out⟩, belowN HA.out nq⟩
          · obtain ⟨o1, o2, o10⟩ := ho
            have b1 : (o == 1) = false := by simpa using o1
            have b2 : (o == 2) = false := by simpa using o2
            have b3 : (o == 10) = false := by simpa using o10
            have b4 : (o != 1) = true := by simpa using o1
            have b5 : (o != 2) = true := by simpa using o2
            have b6 : (o != 10) = true := by simpa using o10
            have HO := Lib.hid (And.intro o1 (And.intro o2 o10))
            clear o1 o2 o10
            generalize hkn : kidsN o = kn at *
            have Hkn := Lib.hid hkn
            clear hkn
            have hno : Hid (¬ PlainN o n s k ms) := fun h => by
              have h2 := h.2
              unfold HoldsN at h2
              rw [if_neg HO.out.1, if_neg HO.out.2.1, if_neg HO.out.2.2] at h2; have a1 := hsz.out; have a2 := hmp.out; have a3 := HMl.out; have a4 := hnz.out; have a5 := h2.1; have a6 := h2.2.1; have a7 := h2.2.2; omega
            go_enter Tryz.func104, Tryz.ntmps104
            go_wp2_with fail
            go_quiet (first | (go_at_call 89; refine Calls.quiet_of_same (specKidsQ _ _ _ Hkn.out)))
            go_wp2
            go_ret
            exact ⟨false, rfl, ⟨fun h => (by cases h), fun h => absurd h hno.out⟩, belowN HA.out nq⟩
      | false =>
        have hnz : Hid (n = 0) := by show _ = _; simpa using hn0
        cases hm0 : decide (0 < m) with
        | true =>
          have hmp : Hid (0 < m) := by show 0 < m; simpa using hm0
          rcases opCases o with ho | ho | ho | ho
          · subst ho
            have e1 : kidsN 1 = 0 := rfl
            have Hkn := Lib.hid e1
            have hk1 : ((k : Int) != 0) = false := hk0
            clear e1
            have hno : Hid (¬ PlainN 1 n s k ms) := fun h => by
              have h2 := h.2
              unfold HoldsN at h2
              rw [if_pos rfl] at h2; have a1 := hsz.out; have a2 := hmp.out; have a3 := HMl.out; have a4 := h2.2.1; have a5 := h2.2.2; omega
            go_enter Tryz.func104, Tryz.ntmps104
            go_wp2_with fail
            go_quiet (first | (go_at_call 89; refine Calls.quiet_of_same (specKidsQ _ _ _ Hkn.out)))
            go_wp2
            go_ret
            exact ⟨false, rfl, ⟨fun h => (by cases h), fun h => absurd h hno.out⟩, belowN HA.out nq⟩
          · subst ho
            have e1 : kidsN 2 = 0 := rfl
            have Hkn := Lib.hid e1
            have hk1 : ((k : Int) != 0) = false := hk0
            clear e1
            have hno : Hid (¬ PlainN 2 n s k ms) := fun h => by
              have h2 := h.2
              unfold HoldsN at h2
              rw [if_neg (by decide), if_pos rfl] at h2; have a1 := hnz.out; have a2 := hmp.out; have a3 := HMl.out; have a4 := h2.2.1; have a5 := h2.2.2; omega
            go_enter Tryz.func104, Tryz.ntmps104
            go_wp2_with fail
            go_quiet (first | (go_at_call 89; refine Calls.quiet_of_same (specKidsQ _ _ _ Hkn.out)))
            go_wp2
            go_ret
            exact ⟨false, rfl, ⟨fun h => (by cases h), fun h => absurd h hno.out⟩, belowN HA.out nq⟩
          · subst ho
            have e1 : kidsN 10 = 1 := rfl
            have Hkn := Lib.hid e1
            have hk1 : ((k : Int) != 1) = false := hk0
            clear e1
            have hno : Hid (¬ PlainN 10 n s k ms) := fun h => by
              have h2 := h.2
              unfold HoldsN at h2
              rw [if_neg (by decide), if_neg (by decide), if_pos rfl] at h2; have a1 := hnz.out; have a2 := hsz.out; have a4 := h2.1; have a5 := h2.2.1; omega
            go_enter Tryz.func104, Tryz.ntmps104
            go_wp2_with fail
            go_quiet (first | (go_at_call 89; refine Calls.quiet_of_same (specKidsQ _ _ _ Hkn.out)))
            go_wp2
            go_ret
            exact ⟨false, rfl, ⟨fun h => (by cases h), fun h => absurd h hno.out⟩, belowN HA.out nq⟩
          · obtain ⟨o1, o2, o10⟩ := ho
            have b1 : (o == 1) = false := by simpa using o1
            have b2 : (o == 2) = false := by simpa using o2
            have b3 : (o == 10) = false := by simpa using o10
            have b4 : (o != 1) = true := by simpa using o1
            have b5 : (o != 2) = true := by simpa using o2
            have b6 : (o != 10) = true := by simpa using o10
            have HO := Lib.hid (And.intro o1 (And.intro o2 o10))
            clear o1 o2 o10
            generalize hkn : kidsN o = kn at *
            have Hkn := Lib.hid hkn
            clear hkn
            have hno : Hid (¬ PlainN o n s k ms) := fun h => by
              have h2 := h.2
              unfold HoldsN at h2
              rw [if_neg HO.out.1, if_neg HO.out.2.1, if_neg HO.out.2.2] at h2; have a1 := hsz.out; have a2 := hmp.out; have a3 := HMl.out; have a4 := hnz.out; have a5 := h2.1; have a6 := h2.2.1; have a7 := h2.2.2; omega
            go_enter Tryz.func104, Tryz.ntmps104
            go_wp2_with fail
            go_quiet (first | (go_at_call 89; refine Calls.quiet_of_same (specKidsQ _ _ _ Hkn.out)))
            go_wp2
            go_ret
            exact ⟨false, rfl, ⟨fun h => (by cases h), fun h => absurd h hno.out⟩, belowN HA.out nq⟩
        | false =>
          have hmp : Hid (m = 0) := by show _ = _; simp at hm0; exact hm0
          rcases opCases o with ho | ho | ho | ho
          · subst ho
            have e1 : kidsN 1 = 0 := rfl
            have Hkn := Lib.hid e1
            have hk1 : ((k : Int) != 0) = false := hk0
            clear e1
            have hno : Hid (¬ PlainN 1 n s k ms) := fun h => by
              have h2 := h.2
              unfold HoldsN at h2
              rw [if_pos rfl] at h2; have a1 := hsz.out; have a2 := hmp.out; have a3 := HMl.out; have a4 := h2.2.1; have a5 := h2.2.2; omega
            go_enter Tryz.func104, Tryz.ntmps104
            go_wp2_with fail
            go_quiet (first | (go_at_call 89; refine Calls.quiet_of_same (specKidsQ _ _ _ Hkn.out)))
            go_wp2
            go_ret
            exact ⟨false, rfl, ⟨fun h => (by cases h), fun h => absurd h hno.out⟩, belowN HA.out nq⟩
          · subst ho
            have e1 : kidsN 2 = 0 := rfl
            have Hkn := Lib.hid e1
            have hk1 : ((k : Int) != 0) = false := hk0
            clear e1
            go_enter Tryz.func104, Tryz.ntmps104
            go_wp2_with fail
            go_quiet (first | (go_at_call 89; refine Calls.quiet_of_same (specKidsQ _ _ _ Hkn.out)))
            go_wp2_with fail
            refine (specName s _ hs).mono ?_
            rintro e w' ⟨rfl, rfl⟩
            go_wp2
            go_ret
            refine ⟨_, rfl, ?_, belowN HA.out nq⟩
            have a1 := hnz.out
            have a2 := hmp.out
            have a3 := HMl.out
            have a4 := hkids.out
            show _ ↔ _
            unfold PlainN HoldsN
            rw [if_neg (by decide), if_pos rfl]
            exact ⟨fun h => ⟨a4, h, a1, by omega⟩, fun h => h.2.1⟩
          · subst ho
            have e1 : kidsN 10 = 1 := rfl
            have Hkn := Lib.hid e1
            have hk1 : ((k : Int) != 1) = false := hk0
            clear e1
            have hno : Hid (¬ PlainN 10 n s k ms) := fun h => by
              have h2 := h.2
              unfold HoldsN at h2
              rw [if_neg (by decide), if_neg (by decide), if_pos rfl] at h2; have a1 := hnz.out; have a2 := hsz.out; have a4 := h2.1; have a5 := h2.2.1; omega
            go_enter Tryz.func104, Tryz.ntmps104
            go_wp2_with fail
            go_quiet (first | (go_at_call 89; refine Calls.quiet_of_same (specKidsQ _ _ _ Hkn.out)))
            go_wp2
            go_ret
            exact ⟨false, rfl, ⟨fun h => (by cases h), fun h => absurd h hno.out⟩, belowN HA.out nq⟩
          · obtain ⟨o1, o2, o10⟩ := ho
            have b1 : (o == 1) = false := by simpa using o1
            have b2 : (o == 2) = false := by simpa using o2
            have b3 : (o == 10) = false := by simpa using o10
            have b4 : (o != 1) = true := by simpa using o1
            have b5 : (o != 2) = true := by simpa using o2
            have b6 : (o != 10) = true := by simpa using o10
            have HO := Lib.hid (And.intro o1 (And.intro o2 o10))
            clear o1 o2 o10
            generalize hkn : kidsN o = kn at *
            have Hkn := Lib.hid hkn
            clear hkn
            have hno : Hid (¬ PlainN o n s k ms) := fun h => by
              have h2 := h.2
              unfold HoldsN at h2
              rw [if_neg HO.out.1, if_neg HO.out.2.1, if_neg HO.out.2.2] at h2; have a1 := hsz.out; have a2 := hmp.out; have a3 := HMl.out; have a4 := hnz.out; have a5 := h2.1; have a6 := h2.2.1; have a7 := h2.2.2; omega
            go_enter Tryz.func104, Tryz.ntmps104
            go_wp2_with fail
            go_quiet (first | (go_at_call 89; refine Calls.quiet_of_same (specKidsQ _ _ _ Hkn.out)))
            go_wp2
            go_ret
            exact ⟨false, rfl, ⟨fun h => (by cases h), fun h => absurd h hno.out⟩, belowN HA.out nq⟩
end Go.Proofs.YtjhgmmcglonokaaGreatDoor
