/-
  Rules in memory: rows of kids, what stays where blocks stay; no law is proved here.
  How large a rule is, and that two rules that read alike are alike.
  A copy of a rule, in memory of its own.
  Places of a program in memory: how many, a copy, whether two programs are alike.
  A copy of a program.
  How many kids an op has: the model's answer.
-/
import Derived.Test.YtjphjnopdlfplaaGreatDoorRuleMath
import Derived.Test.YtjphjnopdlfplaaGreatDoorMarksLaw
import Derived.Test.YtjphjnopdlfplaaGreatDoorPutL
namespace Go.Proofs.YtjphjnopdlfplaaGreatDoor
open Go.RowKit
set_option linter.unusedVariables false
set_option linter.unusedSimpArgs false

def All : Nat → Prop := fun _ => True
def RowsT (N : Nat → Prop) (w : World) (a : Option Addr) (n : Nat) (ks : List Tr) : Prop := n = ks.length ∧ (ks.length = 0 ∨ ∃ b off, a = some ⟨b, off, none⟩ ∧ N b ∧ b < w.heap.size ∧ RowF N w b off ks 0)
theorem trF_iff {N : Nat → Prop} {w : World} {o n : Int} {s : ByteArray} {ks : List Tr} {ms : List (Int × Int)} {f : Fld} : TrF N w (.node o n s ks ms) f ↔ f.op = o ∧ f.num = n ∧ f.name = s ∧ MarksN N w f.ma f.ml ms ∧ RowsT N w f.ka f.kl ks ∧ f.kl ≤ f.kc ∧ f.ml ≤ f.mc := by
  rw [TrF]
  constructor
  · rintro ⟨h1, h2, h3, h4, h7, h5, h6⟩; exact ⟨h1, h2, h3, h5, ⟨h4, h6⟩, h7⟩
  · rintro ⟨h1, h2, h3, h5, ⟨h4, h6⟩, h7⟩; exact ⟨h1, h2, h3, h4, h7, h5, h6⟩
theorem same_of_below {N : Nat → Prop} {w w' : World} (h : Below w.heap.size w w') : Same N w w' := ⟨h.size, fun b _ hb => h.block b hb⟩
theorem Same.refl (N : Nat → Prop) (w : World) : Same N w w := ⟨Nat.le_refl _, fun _ _ _ => rfl⟩
theorem Same.trans {N : Nat → Prop} {a b c : World} (h : Same N a b) (k : Same N b c) : Same N a c := ⟨Nat.le_trans h.1 k.1, fun x hx hl => (k.2 x hx (Nat.lt_of_lt_of_le hl h.1)).trans (h.2 x hx hl)⟩
theorem same_grown {N : Nat → Prop} {w w' : World} {g : Nat} (h : w.grownBy w' (some g)) (hN : ∀ b, N b → b ≠ g) : Same N w w' := ⟨h.size, fun b hb hl => h.block b hl (by intro e; simp only [Option.some.injEq] at e; exact hN b hb e)⟩
theorem RowsT.kept {N : Nat → Prop} {w w' : World} (s : Same N w w') {a : Option Addr} {n : Nat} {ks : List Tr} (h : RowsT N w a n ks) : RowsT N w' a n ks := by
  obtain ⟨h1, h2⟩ := h
  refine ⟨h1, ?_⟩
  rcases h2 with h | ⟨b, off, k1, k2, k3, k4⟩
  · exact Or.inl h
  · exact Or.inr ⟨b, off, k1, k2, Nat.lt_of_lt_of_le k3 s.1, RowF.kept s b off (s.2 b k2 k3) ks 0 k4⟩
theorem RowsT.cells {N : Nat → Prop} {w : World} {a : Option Addr} {n : Nat} {ks : List Tr} (h : RowsT N w a n ks) (h0 : 0 < n) : ∃ b off, a = some ⟨b, off, none⟩ ∧ N b ∧ b < w.heap.size ∧ ∀ j, (hj : j < ks.length) → ∃ f, CellsF w b (off + j * 5) f ∧ TrF N w ks[j] f := by
  obtain ⟨h1, h2⟩ := h
  rcases h2 with h | ⟨b, off, k1, k2, k3, k4⟩
  · omega
  · refine ⟨b, off, k1, k2, k3, fun j hj => ?_⟩
    have := rowF_get ks 0 j k4 hj
    rw [Nat.zero_add] at this
    exact this
theorem rowsT_of {N : Nat → Prop} {w : World} {b off : Nat} {ks : List Tr} (hN : N b) (hb : b < w.heap.size) (h : ∀ j, (hj : j < ks.length) → ∃ f, CellsF w b (off + j * 5) f ∧ TrF N w ks[j] f) : RowsT N w (some ⟨b, off, none⟩) ks.length ks :=
  ⟨rfl, Or.inr ⟨b, off, rfl, hN, hb, rowF_of ks 0 (fun j hj => by rw [Nat.zero_add]; exact h j hj)⟩⟩
theorem MarksN.mono {N N' : Nat → Prop} (hN : ∀ b, N b → N' b) {w : World} {a : Option Addr} {len : Nat} {ms : List (Int × Int)} (h : MarksN N w a len ms) : MarksN N' w a len ms := by
  obtain ⟨h1, h2⟩ := h
  refine ⟨h1, ?_⟩
  rcases h2 with h | ⟨b, off, k1, k2, k3, k4⟩
  · exact Or.inl h
  · exact Or.inr ⟨b, off, k1, hN b k2, k3, k4⟩
mutual
theorem TrF.mono {N N' : Nat → Prop} (hN : ∀ b, N b → N' b) {w : World} : ∀ (t : Tr) (f : Fld), TrF N w t f → TrF N' w t f
  | .node o n nm ks ms, f, h => by
    rw [TrF] at h ⊢
    obtain ⟨h1, h2, h3, h4, h7, h5, h6⟩ := h
    refine ⟨h1, h2, h3, h4, h7, h5.mono hN, ?_⟩
    rcases h6 with h | ⟨b, off, k1, k2, k3, k4⟩
    · exact Or.inl h
    · exact Or.inr ⟨b, off, k1, hN b k2, k3, RowF.mono hN b off ks 0 k4⟩
theorem RowF.mono {N N' : Nat → Prop} (hN : ∀ b, N b → N' b) {w : World} (b off : Nat) : ∀ (ks : List Tr) (i : Nat), RowF N w b off ks i → RowF N' w b off ks i
  | [], i, h => by rw [RowF]; trivial
  | t :: r, i, h => by
    rw [RowF] at h ⊢
    obtain ⟨⟨f, h1, h2⟩, h3⟩ := h
    exact ⟨⟨f, h1, TrF.mono hN t f h2⟩, RowF.mono hN b off r (i + 1) h3⟩
end
theorem marks_of_N {N : Nat → Prop} {w : World} {a : Option Addr} {len : Nat} {ms : List (Int × Int)} (h : MarksN N w a len ms) : Marks w a len (mF ms) (mP ms) := by
  obtain ⟨h1, h2⟩ := h
  rcases h2 with h | ⟨b, off, k1, k2, k3, k4⟩
  · exact Or.inl h
  · exact Or.inr ⟨b, off, k1, k3, k4⟩
theorem marksN_of {N : Nat → Prop} {w : World} {g len : Nat} {ms : List (Int × Int)} (h : Marks w (some ⟨g, 0, none⟩) len (mF ms) (mP ms)) (hl : len = ms.length) (hN : N g) : MarksN N w (some ⟨g, 0, none⟩) len ms := by
  refine ⟨hl, ?_⟩
  rcases h with h | ⟨b, off, k1, k3, k4⟩
  · exact Or.inl h
  · simp only [Option.some.injEq, Addr.mk.injEq] at k1
    obtain ⟨rfl, rfl, -⟩ := k1
    exact Or.inr ⟨g, 0, rfl, hN, k3, k4⟩

mutual
/-- No length in the tree is beyond what a machine has. -/
def WideT : Tr → Prop
  | .node _ _ s ks ms => s.size ≤ maxLen ∧ ks.length ≤ maxLen ∧ ms.length ≤ maxLen ∧ WideL ks
def WideL : List Tr → Prop
  | [] => True
  | t :: r => WideT t ∧ WideL r
end
theorem wideL_mem : ∀ {ks : List Tr}, WideL ks → ∀ t ∈ ks, WideT t
  | [], h, t, ht => by simp at ht
  | x :: r, h, t, ht => by
    rw [WideL] at h
    rcases List.mem_cons.1 ht with rfl | ht
    · exact h.1
    · exact wideL_mem h.2 t ht
theorem wideL_of : ∀ {ks : List Tr}, (∀ t ∈ ks, WideT t) → WideL ks
  | [], h => by rw [WideL]; trivial
  | x :: r, h => by
    rw [WideL]
    exact ⟨h x (by simp), wideL_of fun t ht => h t (by simp [ht])⟩
theorem szL_mem : ∀ {ks : List Tr} {t : Tr}, t ∈ ks → szT t ≤ szL ks
  | [], t, h => by simp at h
  | x :: r, t, h => by
    rw [szL]
    rcases List.mem_cons.1 h with rfl | h
    · omega
    · have := szL_mem h; omega
end Go.Proofs.YtjphjnopdlfplaaGreatDoor

namespace Go.Proofs.YtjphjnopdlfplaaGreatDoor
open Go.RowKit
set_option linter.unusedVariables false
set_option linter.unusedSimpArgs false

def SzP (m : Nat) (lf : Int) (w : World) (e : Ending) (w' : World) : Prop := ∃ r : Int, -1 ≤ r ∧ r ≤ lf ∧ e = .returned (.int .i64 r) ∧ Hid (0 ≤ r → (m : Int) ≤ lf - r) ∧ Below w.heap.size w w'
end Go.Proofs.YtjphjnopdlfplaaGreatDoor

namespace Go.Proofs.YtjphjnopdlfplaaGreatDoor
open Go.RowKit
set_option linter.unusedVariables false
set_option linter.unusedSimpArgs false

theorem lt_heapT {w : World} {b : Nat} {o : Obj} (h : w.heap[b]? = some o) : b < w.heap.size := (Array.getElem?_eq_some_iff.1 h).1
theorem grown_setRowT (w : World) (g : Nat) (cs : Array Value) : w.grownBy (w.setRow g cs) (some g) := ⟨rfl, rfl, rfl, by simp, fun k _ hne => setRow_other w g k cs (by intro e; subst e; exact hne rfl)⟩
theorem RowsT.mono {N N' : Nat → Prop} (hN : ∀ b, N b → N' b) {w : World} {a : Option Addr} {n : Nat} {ks : List Tr} (h : RowsT N w a n ks) : RowsT N' w a n ks := by
  obtain ⟨h1, h2⟩ := h
  refine ⟨h1, ?_⟩
  rcases h2 with h | ⟨b, off, k1, k2, k3, k4⟩
  · exact Or.inl h
  · exact Or.inr ⟨b, off, k1, hN b k2, k3, RowF.mono hN b off ks 0 k4⟩
theorem ruleSizeC : (Tryz.prog.info? 39).map (·.size) = some 5 := by kernel_rfl
theorem infoRule : (Tryz.prog.info? 39).map (fun i => (i.zero, i.size, i.bytes)) = some (some (.agg #[.int .i64 0, .int .i64 0, .string ⟨#[]⟩, .slice none 0 0, .slice none 0 0]), 5, 80) := by kernel_rfl
def CopyT (t : Tr) (w : World) (e : Ending) (w' : World) : Prop := ∃ f : Fld, e = .returned f.val ∧ TrF (fun b => w.heap.size ≤ b) w' t f ∧ Below w.heap.size w w'
def CopyRow (ks : List Tr) (w : World) (e : Ending) (w' : World) : Prop := ∃ g : Nat, w.heap.size ≤ g ∧ e = .returned (.slice (some ⟨g, 0, none⟩) ks.length ks.length) ∧ RowsT (fun b => w.heap.size ≤ b) w' (some ⟨g, 0, none⟩) ks.length ks ∧ Below w.heap.size w w'
def DoneR (g k : Nat) (ks : List Tr) (xs : List Value) (W : World) : Prop := ∀ j, j < k → ∀ hj : j < ks.length, ∃ f : Fld, (∀ m, m < 5 → xs[j * 5 + m]? = (#[Value.int .i64 f.op, .int .i64 f.num, .string f.name, .slice f.ka f.kl f.kc, .slice f.ma f.ml f.mc] : Array Value)[m]?) ∧ TrF (fun b => g < b) W ks[j] f
end Go.Proofs.YtjphjnopdlfplaaGreatDoor

namespace Go.Proofs.YtjphjnopdlfplaaGreatDoor
open Go.RowKit
set_option linter.unusedVariables false
set_option linter.unusedSimpArgs false

/-- A place of a program. -/
structure Pl where
  op : Int
  num : Int
  nm : ByteArray
  ms : List (Int × Int)
/-- .. as it lies in memory. -/
structure FI where
  op : Int
  num : Int
  name : ByteArray
  ma : Option Addr
  ml : Nat
  mc : Nat
def FI.val (f : FI) : Value := .agg #[.int .i64 f.op, .int .i64 f.num, .string f.name, .slice f.ma f.ml f.mc]
def PlF (N : Nat → Prop) (w : World) (d : Pl) (f : FI) : Prop := f.op = d.op ∧ f.num = d.num ∧ f.name = d.nm ∧ MarksN N w f.ma f.ml d.ms ∧ f.ml ≤ f.mc
def CellsI (w : World) (b o : Nat) (f : FI) : Prop := w.cell? ⟨b, o, none⟩ = some (.int .i64 f.op) ∧ w.cell? ⟨b, o + 1, none⟩ = some (.int .i64 f.num) ∧ w.cell? ⟨b, o + 2, none⟩ = some (.string f.name) ∧ w.cell? ⟨b, o + 3, none⟩ = some (.slice f.ma f.ml f.mc)
def PlsN (N : Nat → Prop) (w : World) (a : Option Addr) (n : Nat) (ds : List Pl) : Prop := n = ds.length ∧ (n = 0 ∨ ∃ b off, a = some ⟨b, off, none⟩ ∧ N b ∧ b < w.heap.size ∧ ∀ j, (hj : j < ds.length) → ∃ f, CellsI w b (off + j * 4) f ∧ PlF N w ds[j] f)
theorem PlF.kept {N : Nat → Prop} {w w' : World} {d : Pl} {f : FI} (h : PlF N w d f) (s : Same N w w') : PlF N w' d f := ⟨h.1, h.2.1, h.2.2.1, h.2.2.2.1.kept s, h.2.2.2.2⟩
theorem PlF.mono {N N' : Nat → Prop} (hN : ∀ b, N b → N' b) {w : World} {d : Pl} {f : FI} (h : PlF N w d f) : PlF N' w d f := ⟨h.1, h.2.1, h.2.2.1, h.2.2.2.1.mono hN, h.2.2.2.2⟩
theorem CellsI.kept {w w' : World} {b o : Nat} {f : FI} (h : CellsI w b o f) (e : w'.heap[b]? = w.heap[b]?) : CellsI w' b o f :=
  ⟨(World.cell?_of_block (a := ⟨b, o, none⟩) e).trans h.1, (World.cell?_of_block (a := ⟨b, o + 1, none⟩) e).trans h.2.1, (World.cell?_of_block (a := ⟨b, o + 2, none⟩) e).trans h.2.2.1, (World.cell?_of_block (a := ⟨b, o + 3, none⟩) e).trans h.2.2.2⟩
theorem PlsN.kept {N : Nat → Prop} {w w' : World} {a : Option Addr} {n : Nat} {ds : List Pl} (h : PlsN N w a n ds) (s : Same N w w') : PlsN N w' a n ds := by
  obtain ⟨h1, h2⟩ := h
  refine ⟨h1, ?_⟩
  rcases h2 with h | ⟨b, off, k1, k2, k3, k4⟩
  · exact Or.inl h
  · refine Or.inr ⟨b, off, k1, k2, Nat.lt_of_lt_of_le k3 s.1, fun j hj => ?_⟩
    obtain ⟨f, c, t⟩ := k4 j hj
    exact ⟨f, c.kept (s.2 b k2 k3), t.kept s⟩
theorem PlsN.mono {N N' : Nat → Prop} (hN : ∀ b, N b → N' b) {w : World} {a : Option Addr} {n : Nat} {ds : List Pl} (h : PlsN N w a n ds) : PlsN N' w a n ds := by
  obtain ⟨h1, h2⟩ := h
  refine ⟨h1, ?_⟩
  rcases h2 with h | ⟨b, off, k1, k2, k3, k4⟩
  · exact Or.inl h
  · refine Or.inr ⟨b, off, k1, hN b k2, k3, fun j hj => ?_⟩
    obtain ⟨f, c, t⟩ := k4 j hj
    exact ⟨f, c, t.mono hN⟩
theorem PlsN.cells {N : Nat → Prop} {w : World} {a : Option Addr} {n : Nat} {ds : List Pl} (h : PlsN N w a n ds) (h0 : 0 < n) : ∃ b off, a = some ⟨b, off, none⟩ ∧ N b ∧ b < w.heap.size ∧ ∀ j, (hj : j < ds.length) → ∃ f, CellsI w b (off + j * 4) f ∧ PlF N w ds[j] f := by
  obtain ⟨-, h2 | h2⟩ := h
  · omega
  · exact h2
def WideP (d : Pl) : Prop := d.nm.size ≤ maxLen ∧ d.ms.length ≤ maxLen
def SmallP (d : Pl) : Prop := d.nm.size ≤ 1048576 ∧ d.ms.length ≤ 1048576
set_option maxHeartbeats 4000000 in
theorem szPl (d : Pl) (f : FI) (lf : Int) (w : World) (h : PlF All w d f) (hw : WideP d) (l0 : 0 ≤ lf) (l1 : lf ≤ 1048576) :
    Calls Tryz.prog 32 #[f.val, .int .i64 lf] w (SzP (d.nm.size + d.ms.length) lf w) := by
  obtain ⟨e1, e2, e3, hm, hc2⟩ := h
  obtain ⟨hs, hml⟩ := hw
  obtain ⟨o, n, s, ms⟩ := d
  obtain ⟨fo, fn, fs, ma, ml, mc⟩ := f
  dsimp only at e1 e2 e3 hm hc2 hs hml ⊢
  subst e1 e2 e3
  obtain rfl := hm.1
  clear hm
  unfold maxLen at hs hml
  unfold FI.val
  dsimp only
  have e0 : IntKind.i64.wrap (lf - (fs.size : Int)) = lf - (fs.size : Int) := IntWalk.i64_in _ (by omega)
  have hB : Below w.heap.size w (w.alloc (.cells #[Value.int IntKind.i64 fo, Value.int IntKind.i64 fn, Value.string fs, Value.slice ma ms.length mc] 62)) := (Below.refl _ _).alloc (Nat.le_refl _) _
  have HB := Lib.hid hB
  clear hB
  rcases Int.lt_or_le (lf - (fs.size : Int)) 0 with c0 | c0
  · have z0 : decide (lf - (fs.size : Int) < 0) = true := decide_eq_true c0
    go_enter Tryz.func32, Tryz.ntmps32
    go_wp2
    go_ret
    exact ⟨-1, by omega, by omega, rfl, fun h => by omega, HB.out⟩
  have z0 : decide (lf - (fs.size : Int) < 0) = false := decide_eq_false (by omega)
  go_enter Tryz.func32, Tryz.ntmps32
  go_wp2_with fail
  refine (szMarkL ma ms.length mc (lf - fs.size) _ (by omega) c0 (by omega)).mono ?_
  rintro e w2 ⟨q, hq, rfl, rfl⟩
  rcases hq with ⟨h1, rfl⟩ | ⟨h1, rfl⟩
  · have g1 : decide (lf - (fs.size : Int) - (ms.length : Int) < 0) = false := decide_eq_false (by omega)
    go_wp2
    go_ret
    exact ⟨lf - fs.size - ms.length, by omega, by omega, rfl, fun _ => by omega, HB.out⟩
  · go_wp2
    go_ret
    exact ⟨-1, by omega, by omega, rfl, fun h => by omega, HB.out⟩
/-- What is left of the room, if it served for all. -/
def SzD (ds : List Pl) (lf : Int) (w : World) (e : Ending) (w' : World) : Prop := ∃ r : Int, -1 ≤ r ∧ r ≤ lf ∧ e = .returned (.int .i64 r) ∧ Hid (0 ≤ r → (ds.length : Int) ≤ lf ∧ ∀ d ∈ ds, SmallP d) ∧ Below w.heap.size w w'
set_option maxHeartbeats 4000000 in
theorem szPls (a : Option Addr) (n cap : Nat) (ds : List Pl) (lf : Int) (w : World) (h : PlsN All w a n ds) (hw : ∀ d ∈ ds, WideP d) (hl : n ≤ maxLen) (l0 : 0 ≤ lf) (l1 : lf ≤ 1048576) :
    Calls Tryz.prog 8 #[.slice a n cap, .int .i64 lf] w (SzD ds lf w) := by
  have hlm : (n : Int) ≤ 9223372036854775807 := by unfold maxLen at hl; omega
  have e0 : IntKind.i64.wrap (lf - (n : Int)) = lf - (n : Int) := IntWalk.i64_in _ (by omega)
  have H := Lib.hid h
  have HW := Lib.hid hw
  have HN : Hid (n = ds.length) := h.1
  clear h hw hl
  rcases Int.lt_or_le (lf - (n : Int)) 0 with h1 | h1
  · have z0 : decide (lf - (n : Int) < 0) = true := decide_eq_true h1
    go_enter Tryz.func8, Tryz.ntmps8
    go_wp2
    go_ret
    exact ⟨-1, by omega, by omega, rfl, fun h => by omega, Below.refl _ _⟩
  · have z0 : decide (lf - (n : Int) < 0) = false := decide_eq_false (by omega)
    go_enter Tryz.func8, Tryz.ntmps8
    go_wp2_with fail
    go_loopw [1, 5] (fun vl vi wr => ∃ (k : Nat) (l : Int), k ≤ n ∧ vi = .int .i64 k ∧ vl = .int .i64 l ∧ 0 ≤ l ∧ l ≤ lf - n ∧ Hid (∀ j, j < k → (hj : j < ds.length) → SmallP ds[j]) ∧ Below w.heap.size w wr) (fun _ vi _ => n - (intOf vi).toNat)
    case atStart => exact ⟨0, lf - n, Nat.zero_le _, rfl, rfl, h1, Int.le_refl _, fun j hj => absurd hj (Nat.not_lt_zero _), Below.refl _ _⟩
    case round =>
      obtain ⟨k, l, hk, rfl, rfl, g0, g1, hsm, hb⟩ := hrel
      rcases Nat.lt_or_ge k n with hlt | hge
      · have hkl : k < ds.length := by have := HN.out; omega
        obtain ⟨b, off, rfl, -, hbl, hrow⟩ := (H.out.kept (same_of_below (N := All) hb)).cells (by omega)
        obtain ⟨f, ⟨y0, y1, y2, y3⟩, ht⟩ := hrow k hkl
        have hz := Lib.hid (szPl ds[k] f l wr ht (HW.out _ (List.getElem_mem _)) g0 (by omega))
        clear hrow ht
        unfold FI.val at hz
        have k1 : (k : Int) < n := by omega
        have k0 : (0 : Int) ≤ k := by omega
        go_wp2_with fail
        refine hz.out.mono ?_
        rintro e w2 ⟨r, q0, q1, rfl, hr, hb2⟩
        have hb3 : Below w.heap.size w w2 := hb.trans (hb2.mono hb.size)
        clear y0 y1 y2 y3 hb2
        rcases Int.lt_or_le r 0 with c | c
        · have zr : decide (r < 0) = true := decide_eq_true c
          go_wp2
          go_ret
          exact ⟨-1, by omega, by omega, rfl, fun h => by omega, hb3⟩
        · have zr : decide (r < 0) = false := decide_eq_false (by omega)
          have hS : Hid (SmallP ds[k]) := by have := hr.out c; show _ ∧ _; omega
          clear hr
          go_wp2
          go_roundw
          case rel => exact ⟨k + 1, r, by omega, by go_num, rfl, c, by omega, fun j hj hjl => by
            by_cases e : j = k
            · subst e; exact hS.out
            · exact hsm.out j (by omega) hjl, hb3⟩
          case measure => simp [intOf]; omega
      · obtain rfl : k = n := by omega
        have hpost : Hid (∀ d ∈ ds, SmallP d) := fun d hd => by
          obtain ⟨j, hj, rfl⟩ := List.getElem_of_mem hd
          exact hsm.out j (by have := HN.out; omega) hj
        have hnn := HN.out
        go_wp2
        go_ret
        exact ⟨l, by omega, by omega, rfl, fun h => ⟨by have := HN.out; omega, hpost.out⟩, hb⟩
set_option maxHeartbeats 4000000 in
theorem eqPl (d : Pl) (f g : FI) (w : World) (h : PlF All w d f) (h' : PlF All w d g) (hs : SmallP d) : Calls Tryz.prog 40 #[f.val, g.val] w fun e w' => e = .returned (.bool true) ∧ Below w.heap.size w w' := by
  obtain ⟨e1, e2, e3, hm, -⟩ := h
  obtain ⟨e1', e2', e3', hm', -⟩ := h'
  obtain ⟨o, n, s, ms⟩ := d
  obtain ⟨fo, fn, fs, ma, ml, mc⟩ := f
  obtain ⟨go, gn, gs, ma', ml', mc'⟩ := g
  dsimp only at e1 e2 e3 hm e1' e2' e3' hm'
  have q1 := e1.symm
  have q2 := e2.symm
  have q3 := e3.symm
  have q4 := e1'.symm
  have q5 := e2'.symm
  have q6 := e3'.symm
  clear e1 e2 e3 e1' e2' e3'
  subst q1 q2 q3 q4 q5 q6
  obtain rfl := hm.1
  obtain rfl := hm'.1
  have hml : ms.length ≤ 1048576 := hs.2
  have HM := Lib.hid hm
  have HM' := Lib.hid hm'
  clear hm hm' hs
  unfold FI.val
  dsimp only
  have q1 : (s.toList != s.toList) = false := by simp
  have hArg : ((w.alloc (.cells #[Value.int IntKind.i64 o, Value.int IntKind.i64 n, Value.string s, Value.slice ma ms.length mc] 55)).alloc (.cells #[Value.int IntKind.i64 o, Value.int IntKind.i64 n, Value.string s, Value.slice ma' ms.length mc'] 55)).heap[w.heap.size]? = some (.cells #[Value.int IntKind.i64 o, Value.int IntKind.i64 n, Value.string s, Value.slice ma ms.length mc] 55 (0, 0)) := by
    rw [Lib.alloc_old _ _ _ (by simp only [World.size_alloc]; omega)]
    exact heap_alloc_new w _
  have hArg' : ((w.alloc (.cells #[Value.int IntKind.i64 o, Value.int IntKind.i64 n, Value.string s, Value.slice ma ms.length mc] 55)).alloc (.cells #[Value.int IntKind.i64 o, Value.int IntKind.i64 n, Value.string s, Value.slice ma' ms.length mc'] 55)).heap[w.heap.size + 1]? = some (.cells #[Value.int IntKind.i64 o, Value.int IntKind.i64 n, Value.string s, Value.slice ma' ms.length mc'] 55 (0, 0)) := by
    have := heap_alloc_new (w.alloc (.cells #[Value.int IntKind.i64 o, Value.int IntKind.i64 n, Value.string s, Value.slice ma ms.length mc] 55)) (.cells #[Value.int IntKind.i64 o, Value.int IntKind.i64 n, Value.string s, Value.slice ma' ms.length mc'] 55)
    simpa only [World.size_alloc] using this
  have hB : Below w.heap.size w ((w.alloc (.cells #[Value.int IntKind.i64 o, Value.int IntKind.i64 n, Value.string s, Value.slice ma ms.length mc] 55)).alloc (.cells #[Value.int IntKind.i64 o, Value.int IntKind.i64 n, Value.string s, Value.slice ma' ms.length mc'] 55)) := ((Below.refl _ _).alloc (Nat.le_refl _) _).alloc (by simp only [World.size_alloc]; omega) _
  have ca : ((w.alloc (.cells #[Value.int IntKind.i64 o, Value.int IntKind.i64 n, Value.string s, Value.slice ma ms.length mc] 55)).alloc (.cells #[Value.int IntKind.i64 o, Value.int IntKind.i64 n, Value.string s, Value.slice ma' ms.length mc'] 55)).cell? ⟨w.heap.size, 3, none⟩ = some (Value.slice ma ms.length mc) := by rw [Lib.cell_of_heap hArg]; rfl
  have ca' : ((w.alloc (.cells #[Value.int IntKind.i64 o, Value.int IntKind.i64 n, Value.string s, Value.slice ma ms.length mc] 55)).alloc (.cells #[Value.int IntKind.i64 o, Value.int IntKind.i64 n, Value.string s, Value.slice ma' ms.length mc'] 55)).cell? ⟨w.heap.size + 1, 3, none⟩ = some (Value.slice ma' ms.length mc') := by rw [Lib.cell_of_heap hArg']; rfl
  have hq := Lib.hid (eqMarks ma ma' ms.length mc mc' (mF ms) (mP ms) _ (marks_of_N (HM.out.kept (same_of_below hB))) (marks_of_N (HM'.out.kept (same_of_below hB))) hml)
  have HB := Lib.hid hB
  clear hArg hArg' hB
  go_enter Tryz.func40, Tryz.ntmps40
  go_wp2_with fail
  refine hq.out.mono ?_
  rintro e w2 ⟨rfl, d2⟩
  go_wp2
  go_ret
  exact ⟨rfl, HB.out.trans (d2.mono HB.out.size)⟩
set_option maxHeartbeats 4000000 in
theorem eqPls (a a' : Option Addr) (n cap cap' : Nat) (ds : List Pl) (w : World) (h : PlsN All w a n ds) (h' : PlsN All w a' n ds) (hs : ∀ d ∈ ds, SmallP d) (hl : n ≤ 1048576) :
    Calls Tryz.prog 14 #[.slice a n cap, .slice a' n cap'] w fun e w' => e = .returned (.bool true) ∧ Below w.heap.size w w' := by
  have H := Lib.hid h
  have H' := Lib.hid h'
  have HS := Lib.hid hs
  have HN : Hid (n = ds.length) := h.1
  clear h h' hs
  go_enter Tryz.func14, Tryz.ntmps14
  go_wp2_with fail
  go_loopw [5] (fun i wr => ∃ k : Nat, k ≤ n ∧ i = .int .i64 k ∧ Below w.heap.size w wr) (fun i _ => n - (intOf i).toNat)
  case atStart => exact ⟨0, Nat.zero_le _, rfl, Below.refl _ _⟩
  case round =>
    obtain ⟨k, hk, rfl, hb⟩ := hrel
    rcases Nat.lt_or_ge k n with hlt | hge
    · have hkl : k < ds.length := by have := HN.out; omega
      obtain ⟨b, off, rfl, -, hbl, hrow⟩ := (H.out.kept (same_of_below (N := All) hb)).cells (by omega)
      obtain ⟨f, ⟨y0, y1, y2, y3⟩, ht⟩ := hrow k hkl
      obtain ⟨b', off', rfl, -, hbl', hrow'⟩ := (H'.out.kept (same_of_below (N := All) hb)).cells (by omega)
      obtain ⟨f', ⟨x0, x1, x2, x3⟩, ht'⟩ := hrow' k hkl
      have HT := Lib.hid ht
      have HT' := Lib.hid ht'
      have k1 : (k : Int) < n := by omega
      have k0 : (0 : Int) ≤ k := by omega
      clear hrow hbl ht hrow' hbl' ht'
      go_wp2_with fail
      go_region_with (go_at_call 40; refine (eqPl ds[k] f f' _ (HT.out.kept (same_of_below (belowN (Below.refl _ wr) 1))) (HT'.out.kept (same_of_below (belowN (Below.refl _ wr) 1))) (HS.out _ (List.getElem_mem _))).mono ?_; rintro e w2 ⟨rfl, hb2⟩)
      all_goals
        have hb3 : Below w.heap.size w w2 := hb.trans (Below.trans (belowN (Below.refl _ _) 1) (hb2.mono hb.size))
        clear y0 y1 y2 y3 x0 x1 x2 x3
        go_wp2
        go_roundw
        case rel => exact ⟨k + 1, by omega, by go_num, hb3⟩
        case measure => simp [intOf]; omega
    · obtain rfl : k = n := by omega
      go_wp2
      go_ret
      exact ⟨rfl, hb⟩
end Go.Proofs.YtjphjnopdlfplaaGreatDoor

namespace Go.Proofs.YtjphjnopdlfplaaGreatDoor
open Go.RowKit
set_option linter.unusedVariables false
set_option linter.unusedSimpArgs false

theorem insSize : (Tryz.prog.info? 55).map (·.size) = some 4 := by kernel_rfl
theorem infoIns : (Tryz.prog.info? 55).map (fun i => (i.zero, i.size, i.bytes)) = some (some (.agg #[.int .i64 0, .int .i64 0, .string ⟨#[]⟩, .slice none 0 0]), 4, 56) := by kernel_rfl
theorem plsN_of {N : Nat → Prop} {w : World} {b off : Nat} {ds : List Pl} (hN : N b) (hb : b < w.heap.size) (h : ∀ j, (hj : j < ds.length) → ∃ f, CellsI w b (off + j * 4) f ∧ PlF N w ds[j] f) : PlsN N w (some ⟨b, off, none⟩) ds.length ds := ⟨rfl, Or.inr ⟨b, off, rfl, hN, hb, h⟩⟩
def CopyI (d : Pl) (w : World) (e : Ending) (w' : World) : Prop := ∃ f : FI, e = .returned f.val ∧ PlF (fun b => w.heap.size ≤ b) w' d f ∧ Below w.heap.size w w'
def CopyIs (ds : List Pl) (w : World) (e : Ending) (w' : World) : Prop := ∃ g : Nat, w.heap.size ≤ g ∧ e = .returned (.slice (some ⟨g, 0, none⟩) ds.length ds.length) ∧ PlsN (fun b => w.heap.size ≤ b) w' (some ⟨g, 0, none⟩) ds.length ds ∧ Below w.heap.size w w'
set_option maxHeartbeats 8000000 in
theorem toPl (d : Pl) (f : FI) (w : World) (h : PlF All w d f) (hs : SmallP d) : Calls Tryz.prog 36 #[f.val] w (CopyI d w) := by
  obtain ⟨e1, e2, e3, hm, hc2⟩ := h
  obtain ⟨o, n, s, ms⟩ := d
  obtain ⟨fo, fn, fs, ma, ml, mc⟩ := f
  dsimp only at e1 e2 e3 hm hc2
  have q1 := e1.symm
  have q2 := e2.symm
  have q3 := e3.symm
  clear e1 e2 e3
  subst q1 q2 q3
  obtain rfl := hm.1
  have hml : ms.length ≤ 1048576 := hs.2
  have HM := Lib.hid hm
  clear hm hs
  unfold FI.val
  dsimp only
  go_enter Tryz.func36, Tryz.ntmps36
  go_wp2_with fail
  have hArg : (((w.alloc (.cells #[Value.int IntKind.i64 o, Value.int IntKind.i64 n, Value.string s, Value.slice ma ms.length mc] 62)).alloc (.cells #[.int .i64 0, .int .i64 0, .string ⟨#[]⟩, .slice none 0 0] 55)).alloc (.cells #[Value.int IntKind.i64 o, Value.int IntKind.i64 n, Value.string s, .slice none 0 0] 55)).heap[w.heap.size]? = some (.cells #[Value.int IntKind.i64 o, Value.int IntKind.i64 n, Value.string s, Value.slice ma ms.length mc] 62 (0, 0)) := by
    rw [Lib.alloc_old _ _ _ (by simp only [World.size_alloc]; omega), Lib.alloc_old _ _ _ (by simp only [World.size_alloc]; omega)]
    exact heap_alloc_new w _
  have hRes : (((w.alloc (.cells #[Value.int IntKind.i64 o, Value.int IntKind.i64 n, Value.string s, Value.slice ma ms.length mc] 62)).alloc (.cells #[.int .i64 0, .int .i64 0, .string ⟨#[]⟩, .slice none 0 0] 55)).alloc (.cells #[Value.int IntKind.i64 o, Value.int IntKind.i64 n, Value.string s, .slice none 0 0] 55)).heap[w.heap.size + 1]? = some (.cells #[.int .i64 0, .int .i64 0, .string ⟨#[]⟩, .slice none 0 0] 55 (0, 0)) := by
    rw [Lib.alloc_old _ _ _ (by simp only [World.size_alloc]; omega)]
    have := heap_alloc_new (w.alloc (.cells #[Value.int IntKind.i64 o, Value.int IntKind.i64 n, Value.string s, Value.slice ma ms.length mc] 62)) (.cells #[.int .i64 0, .int .i64 0, .string ⟨#[]⟩, .slice none 0 0] 55)
    simpa only [World.size_alloc] using this
  have hOut : (((w.alloc (.cells #[Value.int IntKind.i64 o, Value.int IntKind.i64 n, Value.string s, Value.slice ma ms.length mc] 62)).alloc (.cells #[.int .i64 0, .int .i64 0, .string ⟨#[]⟩, .slice none 0 0] 55)).alloc (.cells #[Value.int IntKind.i64 o, Value.int IntKind.i64 n, Value.string s, .slice none 0 0] 55)).heap[w.heap.size + 1 + 1]? = some (.cells #[Value.int IntKind.i64 o, Value.int IntKind.i64 n, Value.string s, .slice none 0 0] 55 (0, 0)) := by
    have := heap_alloc_new ((w.alloc (.cells #[Value.int IntKind.i64 o, Value.int IntKind.i64 n, Value.string s, Value.slice ma ms.length mc] 62)).alloc (.cells #[.int .i64 0, .int .i64 0, .string ⟨#[]⟩, .slice none 0 0] 55)) (.cells #[Value.int IntKind.i64 o, Value.int IntKind.i64 n, Value.string s, .slice none 0 0] 55)
    simpa only [World.size_alloc] using this
  have hAB : Below w.heap.size w (((w.alloc (.cells #[Value.int IntKind.i64 o, Value.int IntKind.i64 n, Value.string s, Value.slice ma ms.length mc] 62)).alloc (.cells #[.int .i64 0, .int .i64 0, .string ⟨#[]⟩, .slice none 0 0] 55)).alloc (.cells #[Value.int IntKind.i64 o, Value.int IntKind.i64 n, Value.string s, .slice none 0 0] 55)) :=
    ((((Below.refl _ _).alloc (Nat.le_refl _) _).alloc (by simp only [World.size_alloc]; omega) _).alloc (by simp only [World.size_alloc]; omega) _)
  generalize (((w.alloc (.cells #[Value.int IntKind.i64 o, Value.int IntKind.i64 n, Value.string s, Value.slice ma ms.length mc] 62)).alloc (.cells #[.int .i64 0, .int .i64 0, .string ⟨#[]⟩, .slice none 0 0] 55)).alloc (.cells #[Value.int IntKind.i64 o, Value.int IntKind.i64 n, Value.string s, .slice none 0 0] 55)) = W0 at *
  have sA := lt_heapT hOut
  have HA0 := Lib.hid hArg
  have HO0 := Lib.hid hOut
  have HR0 := Lib.hid hRes
  have HB0 := Lib.hid hAB
  clear hArg hOut hAB hRes
  have bw0 := HB0.out
  refine (copyMarks ma ms.length mc (mF ms) (mP ms) _ (marks_of_N (HM.out.kept (same_of_below bw0))) hml).mono ?_
  rintro e w1 ⟨g1, hg1, rfl, hr1, d1⟩
  have out1 := (d1.block _ (by omega)).trans HO0.out
  have bww1 : Below w.heap.size w w1 := HB0.out.trans (d1.mono (HB0.out.size))
  have co1 : w1.cell? ⟨w.heap.size + 1 + 1, 3, none⟩ = some (.slice none 0 0) := by rw [Lib.cell_of_heap out1]; rfl
  have cf1 : w1.frozen? ⟨w.heap.size + 1 + 1, 3, none⟩ = false := Lib.frozen_of_heap out1 3
  have out1' : (w1.setCell ⟨w.heap.size + 1 + 1, 3, none⟩ (Value.slice (some ⟨g1, 0, none⟩) ms.length ms.length)).heap[w.heap.size + 1 + 1]? = some (.cells #[Value.int IntKind.i64 o, Value.int IntKind.i64 n, Value.string s, Value.slice (some ⟨g1, 0, none⟩) ms.length ms.length] 55 (0, 0)) := by simp [World.setCell, Array.getElem?_modify, out1]
  have bw1' : Below w.heap.size w (w1.setCell ⟨w.heap.size + 1 + 1, 3, none⟩ (Value.slice (some ⟨g1, 0, none⟩) ms.length ms.length)) := bww1.setCell (p := ⟨w.heap.size + 1 + 1, 3, none⟩) (by show w.heap.size ≤ w.heap.size + 1 + 1; omega) _
  have gs1 := grown_set w1 ⟨w.heap.size + 1 + 1, 3, none⟩ (Value.slice (some ⟨g1, 0, none⟩) ms.length ms.length)
  have sm1 : Same (fun b => w.heap.size + 3 ≤ b) w1 (w1.setCell ⟨w.heap.size + 1 + 1, 3, none⟩ (Value.slice (some ⟨g1, 0, none⟩) ms.length ms.length)) := same_grown gs1 (fun b hb e => by have : b = w.heap.size + 1 + 1 := e; omega)
  have szz1 := d1.size
  have ssz1 : w1.heap.size ≤ (w1.setCell ⟨w.heap.size + 1 + 1, 3, none⟩ (Value.slice (some ⟨g1, 0, none⟩) ms.length ms.length)).heap.size := gs1.size
  have res1' : (w1.setCell ⟨w.heap.size + 1 + 1, 3, none⟩ (Value.slice (some ⟨g1, 0, none⟩) ms.length ms.length)).heap[w.heap.size + 1]? = some (.cells #[.int .i64 0, .int .i64 0, .string ⟨#[]⟩, .slice none 0 0] 55 (0, 0)) := (Below.heap_setCell _ _ _ _ (by show w.heap.size + 1 ≠ w.heap.size + 1 + 1; omega)).trans ((d1.block _ (by omega)).trans HR0.out)
  have F0 := Lib.hid ((marksN_of (N := fun b => w.heap.size + 3 ≤ b) hr1 rfl (by omega)).kept sm1)
  have z0 : w1.cell? ⟨w.heap.size + 1 + 1, 0, none⟩ = some (Value.int IntKind.i64 o) := by rw [Lib.cell_of_heap out1]; rfl
  have z1 : w1.cell? ⟨w.heap.size + 1 + 1, 1, none⟩ = some (Value.int IntKind.i64 n) := by rw [Lib.cell_of_heap out1]; rfl
  have z2 : w1.cell? ⟨w.heap.size + 1 + 1, 2, none⟩ = some (Value.string s) := by rw [Lib.cell_of_heap out1]; rfl
  clear out1 bww1
  have one : (#[Value.int IntKind.i64 o, Value.int IntKind.i64 n, Value.string s, Value.slice (some ⟨g1, 0, none⟩) ms.length ms.length] : Array Value).all (·.oneCell') = true := by simp [Value.oneCell']
  go_wp2_with (first
    | (refine wpList_store_row rfl 55 _ _ rfl (w.heap.size + 1) #[Value.int IntKind.i64 o, Value.int IntKind.i64 n, Value.string s, Value.slice (some ⟨g1, 0, none⟩) ms.length ms.length] rfl rfl 55 #[.int .i64 0, .int .i64 0, .string ⟨#[]⟩, .slice none 0 0] res1' insSize rfl one ?_)
    | fail)
  generalize w1.setCell ⟨w.heap.size + 1 + 1, 3, none⟩ (Value.slice (some ⟨g1, 0, none⟩) ms.length ms.length) = WS at *
  clear co1 cf1 z0 z1 z2
  have hfin := setRow_heap WS (w.heap.size + 1) _ #[Value.int IntKind.i64 o, Value.int IntKind.i64 n, Value.string s, Value.slice (some ⟨g1, 0, none⟩) ms.length ms.length] _ _ res1'
  have gr := grown_setRowT WS (w.heap.size + 1) #[Value.int IntKind.i64 o, Value.int IntKind.i64 n, Value.string s, Value.slice (some ⟨g1, 0, none⟩) ms.length ms.length]
  have smr : Same (fun b => w.heap.size + 3 ≤ b) WS (WS.setRow (w.heap.size + 1) #[Value.int IntKind.i64 o, Value.int IntKind.i64 n, Value.string s, Value.slice (some ⟨g1, 0, none⟩) ms.length ms.length]) := same_grown gr (fun b hb e => by omega)
  have l0 := F0.out.kept smr
  have bfin : Below w.heap.size w (WS.setRow (w.heap.size + 1) #[Value.int IntKind.i64 o, Value.int IntKind.i64 n, Value.string s, Value.slice (some ⟨g1, 0, none⟩) ms.length ms.length]) := bw1'.grown gr bw1'.size (fun k e => by cases e; omega)
  generalize WS.setRow (w.heap.size + 1) #[Value.int IntKind.i64 o, Value.int IntKind.i64 n, Value.string s, Value.slice (some ⟨g1, 0, none⟩) ms.length ms.length] = WF at *
  have z0 : WF.cell? ⟨w.heap.size + 1, 0, none⟩ = some (Value.int IntKind.i64 o) := by rw [Lib.cell_of_heap hfin]; rfl
  have z1 : WF.cell? ⟨w.heap.size + 1, 1, none⟩ = some (Value.int IntKind.i64 n) := by rw [Lib.cell_of_heap hfin]; rfl
  have z2 : WF.cell? ⟨w.heap.size + 1, 2, none⟩ = some (Value.string s) := by rw [Lib.cell_of_heap hfin]; rfl
  have z3 : WF.cell? ⟨w.heap.size + 1, 3, none⟩ = some (Value.slice (some ⟨g1, 0, none⟩) ms.length ms.length) := by rw [Lib.cell_of_heap hfin]; rfl
  refine bodyPost_ret (v := .agg #[Value.int IntKind.i64 o, Value.int IntKind.i64 n, Value.string s, Value.slice (some ⟨g1, 0, none⟩) ms.length ms.length]) ?_ rfl ⟨⟨o, n, s, some ⟨g1, 0, none⟩, ms.length, ms.length⟩, rfl, ⟨rfl, rfl, rfl, l0.mono (fun b hb => by omega), Nat.le_refl _⟩, bfin⟩
  rw [results_cellM rfl]
  go_simp
def DoneI (g k : Nat) (ds : List Pl) (xs : List Value) (W : World) : Prop := ∀ j, j < k → ∀ hj : j < ds.length, ∃ f : FI, (∀ m, m < 4 → xs[j * 4 + m]? = (#[Value.int .i64 f.op, .int .i64 f.num, .string f.name, .slice f.ma f.ml f.mc] : Array Value)[m]?) ∧ PlF (fun b => g < b) W ds[j] f
set_option maxRecDepth 100000 in
set_option maxHeartbeats 8000000 in
theorem toPls (ds : List Pl) (ih : ∀ t ∈ ds, SmallP t) (a : Option Addr) (n cap : Nat) (w : World) (h : PlsN All w a n ds) (hl : n ≤ 1048576) : Calls Tryz.prog 11 #[.slice a n cap] w (CopyIs ds w) := by
  obtain rfl := h.1
  obtain ⟨i0, hi, hz0, hz1, hz2⟩ := info_parts infoIns
  have Hc := Lib.hid h
  have IH := Lib.hid ih
  clear h ih
  generalize hN : ds.length = n at *
  have HN := Lib.hid hN
  clear hN
  go_enter Tryz.func11, Tryz.ntmps11
  go_wp2_with (at_make; refine wpList_make_full _ rfl _ _ 28 rfl w.heap.size 55 i0 (.agg #[.int .i64 0, .int .i64 0, .string ⟨#[]⟩, .slice none 0 0]) 4 Tryz.underlying28 hi hz0 hz1 .i64 .i64 n n n rfl rfl rfl rfl ?_ ?_ ?_ ?_; rw [hz2]; omega; unfold maxLen; omega; exact Nat.le_refl _; intro w1 hown1 hgrow1)
  have hz := hgrow1.size
  have hb1 : Below w.heap.size w w1 := (Below.refl _ _).grown hgrow1 (Nat.le_refl _) (fun k e => by cases e)
  clear hgrow1
  generalize hg : w.heap.size = g at *
  have Hg := Lib.hid hg
  clear hg
  go_loopw [4] (fun i wr => ∃ k : Nat, k ≤ n ∧ i = .int .i64 k ∧ ∃ xs : List Value, wr.ownsRow g 55 4 (.slice (some ⟨g, 0, none⟩) n n) n xs ∧ Hid (DoneI g k ds xs wr) ∧ Below g w wr) (fun i _ => n - (intOf i).toNat)
  case atStart => exact ⟨0, Nat.zero_le _, rfl, _, hown1, fun j hj => absurd hj (Nat.not_lt_zero _), hb1⟩
  case round =>
    obtain ⟨k, hk, rfl, xs, hown, hxs, hb⟩ := hrel
    rcases Nat.lt_or_ge k n with hlt | hge
    · have hkl : k < ds.length := by rw [HN.out]; exact hlt
      obtain ⟨b, off, rfl, -, hbl, hrow⟩ := (Hc.out.kept (same_of_below (N := All) (by rw [Hg.out]; exact hb))).cells (by omega)
      obtain ⟨f, ⟨y0, y1, y2, y3⟩, ht⟩ := hrow k hkl
      have HT := Lib.hid ht
      have k1 : (k : Int) < n := by omega
      have k0 : (0 : Int) ≤ k := by omega
      have hbw := hown.lt g rfl
      have HOWN := Lib.hid hown
      clear hrow hbl hown ht
      go_wp2_with fail
      refine (toPl ds[k] f wr HT.out (IH.out _ (List.getElem_mem _))).mono ?_
      rintro e w2 ⟨q, rfl, hq, hb2⟩
      clear y0 y1 y2 y3
      have hown2 := HOWN.out.kept (row := none) ⟨hb2.os, hb2.tape, hb2.output, hb2.size, fun i hi _ => hb2.block i hi⟩ (Or.inr (by simp [Value.ownBlock]))
      have hb3 : Below g w w2 := hb.trans (hb2.mono (by omega))
      have hx := hown2.1
      have HOWN2 := Lib.hid hown2
      have HQ := Lib.hid (hq.mono (N' := fun b => g < b) (fun b hb => by omega))
      have HB3 := Lib.hid hb3
      have HS2 : Hid (Same (fun b => g < b) wr w2) := same_of_below hb2
      obtain ⟨v0, e0⟩ := cell_ofM (hown2.cellAt (k * 4) (by omega)) (by omega)
      obtain ⟨v1, e1⟩ := cell_ofM (hown2.cellAt (k * 4 + 1) (by omega)) (by omega)
      obtain ⟨v2, e2⟩ := cell_ofM (hown2.cellAt (k * 4 + 2) (by omega)) (by omega)
      obtain ⟨v3, e3⟩ := cell_ofM (hown2.cellAt (k * 4 + 3) (by omega)) (by omega)
      have f0 := hown2.frozenAt (k * 4)
      have f1 := hown2.frozenAt (k * 4 + 1)
      have f2 := hown2.frozenAt (k * 4 + 2)
      have f3 := hown2.frozenAt (k * 4 + 3)
      have hX := Lib.hid hx
      clear hq hb2 hb3 hown2 hb hx
      unfold FI.val
      go_wp2
      go_roundw
      case rel =>
        refine ⟨k + 1, by omega, by go_num, putL xs (k * 4) [Value.int .i64 q.op, .int .i64 q.num, .string q.name, .slice q.ma q.ml q.mc], own_setL [Value.int .i64 q.op, .int .i64 q.num, .string q.name, .slice q.ma q.ml q.mc] (k * 4) w2 xs HOWN2.out, fun j hj hjl => ?_, below_setL (Nat.le_refl _) [Value.int .i64 q.op, .int .i64 q.num, .string q.name, .slice q.ma q.ml q.mc] (k * 4) w2 HB3.out⟩
        have hgr := grown_setL (g := g) [Value.int .i64 q.op, .int .i64 q.num, .string q.name, .slice q.ma q.ml q.mc] (k * 4) w2
        have hsm := same_grown (N := fun b => g < b) hgr (fun b hb e => by omega)
        by_cases e : j = k
        · subst e
          refine ⟨q, fun m hm => ?_, HQ.out.kept hsm⟩
          rw [putL_at _ _ _ _ (by simpa using hm) (by have := hX.out; simp; omega)]
          simp
        · have hj' : j < k := by omega
          obtain ⟨f', h1, h2⟩ := hxs.out j hj' hjl
          refine ⟨f', fun m hm => ?_, (h2.kept HS2.out).kept hsm⟩
          rw [putL_ne _ _ _ _ (by omega)]
          exact h1 m hm
      case measure => simp [intOf]; omega
    · obtain rfl : k = n := by omega
      have hlt := (hown.lt g rfl).2
      have hx := hown.1
      have hpost : Hid (CopyIs ds w (.returned (.slice (some ⟨g, 0, none⟩) k k)) wr) := by
        refine ⟨g, by rw [Hg.out]; exact Nat.le_refl _, by rw [HN.out], ?_, by rw [Hg.out]; exact hb⟩
        refine plsN_of (b := g) (off := 0) (by rw [Hg.out]; exact Nat.le_refl _) hlt (fun j hj => ?_)
        have hjk : j < k := by rw [← HN.out]; exact hj
        obtain ⟨f, h1, h2⟩ := hxs.out j hjk hj
        refine ⟨f, ⟨?_, ?_, ?_, ?_⟩, h2.mono (fun b hb => by rw [Hg.out]; omega)⟩
        · rw [Nat.zero_add, ← Nat.add_zero (j * 4), hown.cellAt (j * 4 + 0) (by omega)]; exact h1 0 (by decide)
        · rw [Nat.zero_add, hown.cellAt (j * 4 + 1) (by omega)]; exact h1 1 (by decide)
        · rw [Nat.zero_add, hown.cellAt (j * 4 + 2) (by omega)]; exact h1 2 (by decide)
        · rw [Nat.zero_add, hown.cellAt (j * 4 + 3) (by omega)]; exact h1 3 (by decide)
      clear hlt hx hown hxs hb
      go_wp2
      go_ret
      exact hpost.out
end Go.Proofs.YtjphjnopdlfplaaGreatDoor

namespace Go.Proofs.YtjphjnopdlfplaaGreatDoor
open Go.RowKit
set_option linter.unusedVariables false
set_option linter.unusedSimpArgs false

set_option maxHeartbeats 1000000 in
theorem specKids (o : Int) (w : World) :
    Calls Tryz.prog 105 #[.int .i64 o] w fun e w' => e = .returned (.int .i64 (kidsN o)) ∧ w = w' := by
  by_cases h1 : o = 1
  · subst h1; go_enter Tryz.func105, Tryz.ntmps105
    go_wp2
    go_ret
    exact ⟨rfl, rfl⟩
  by_cases h2 : o = 2
  · subst h2; go_enter Tryz.func105, Tryz.ntmps105
    go_wp2
    go_ret
    exact ⟨rfl, rfl⟩
  by_cases h3 : o = 10
  · subst h3; go_enter Tryz.func105, Tryz.ntmps105
    go_wp2
    go_ret
    exact ⟨rfl, rfl⟩
  by_cases h4 : o = 6
  · subst h4; go_enter Tryz.func105, Tryz.ntmps105
    go_wp2
    go_ret
    exact ⟨rfl, rfl⟩
  by_cases h5 : o = 9
  · subst h5; go_enter Tryz.func105, Tryz.ntmps105
    go_wp2
    go_ret
    exact ⟨rfl, rfl⟩
  have e1 : (o == 1) = false := by simpa using h1
  have e2 : (o == 2) = false := by simpa using h2
  have e3 : (o == 10) = false := by simpa using h3
  have e4 : (o == 6) = false := by simpa using h4
  have e5 : (o == 9) = false := by simpa using h5
  by_cases h6 : 3 ≤ o ∧ o ≤ 8
  · have hr : kidsN o = 2 := by unfold kidsN; rw [if_neg (by omega), if_neg h3, if_neg h4, if_neg h5, if_pos h6]
    rw [hr]
    have : o = 3 ∨ o = 4 ∨ o = 5 ∨ o = 7 ∨ o = 8 := by omega
    clear hr h1 h2 h3 h4 h5 h6
    rcases this with rfl | rfl | rfl | rfl | rfl
    all_goals
      go_enter Tryz.func105, Tryz.ntmps105
      go_wp2
      go_ret
      exact ⟨rfl, rfl⟩
  · have hr : kidsN o = -1 := by unfold kidsN; rw [if_neg (by omega), if_neg h3, if_neg h4, if_neg h5, if_neg h6]
    rw [hr]
    have f3 : (o == 3) = false := by simp; omega
    have f4 : (o == 4) = false := by simp; omega
    have f5 : (o == 5) = false := by simp; omega
    have f7 : (o == 7) = false := by simp; omega
    have f8 : (o == 8) = false := by simp; omega
    clear hr h1 h2 h3 h4 h5 h6
    go_enter Tryz.func105, Tryz.ntmps105
    go_wp2
    go_ret
    exact ⟨rfl, rfl⟩
theorem specKidsQ (o : Int) (w : World) (v : Int) (h : kidsN o = v) :
    Calls Tryz.prog 105 #[.int .i64 o] w fun e w' => e = .returned (.int .i64 v) ∧ w' = w := by
  subst h; exact (specKids o w).mono fun e w' h => ⟨h.1, h.2.symm⟩
end Go.Proofs.YtjphjnopdlfplaaGreatDoor
