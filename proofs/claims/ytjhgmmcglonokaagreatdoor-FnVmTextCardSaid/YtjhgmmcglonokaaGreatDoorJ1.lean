/-
  Small words that all texts of this seat share: what a slice that came in holds, and how a world grows; no law is proved here.
  Rules as trees: what a rule in memory reads as.
  What each of the two functions NameOk returns at every string, and what the law's own text returns: nothing is written.
  What MoneyOk returns, of the program and of its model, at every int: plain integers in, plain integers out, nothing is written.
  What MoneyAdd returns, of the program and of its model, at every two ints: the sum and true, or 0 and false; nothing is written.
  What MoneyPart returns, of the program and of its model, at every three ints: the nearest part and true, or 0 and false; nothing is written.
-/
import Derived.Test.YtjhgmmcglonokaaGreatDoorRows
import Derived.WalkKit
import Derived.WalkSpells
import Derived.WalkLawsBesides
import Derived.Handy
import Derived.Lib.Hide
import Derived.Deep.QuietTactic
import Derived.BigQuiet
namespace Go.Proofs.YtjhgmmcglonokaaGreatDoor
open Go.RowKit
set_option linter.unusedVariables false

def IsRow (k : IntKind) (w : World) (a : Option Addr) (len cap : Nat) (zs : List Int) : Prop :=
  (a = none ∧ len = 0 ∧ cap = 0 ∧ zs = []) ∨
  ∃ x, a = some x ∧ len ≤ cap ∧ cap ≤ maxLen ∧ zs.length = cap ∧ (∀ i, i < zs.length → w.cell? (x.add i) = some (.int k (zs.getD i 0))) ∧ ∀ n ∈ zs, (Lit.int k n).wf = true
theorem belowN {B : Nat} {a w : World} (h : Below B a w) (n : Nat) : Below B a (w.drewN n) := h.trans ⟨rfl, rfl, rfl, Nat.le_refl _, fun _ _ => rfl⟩
theorem grownN (w : World) (n : Nat) (row : Option Nat) : w.grownBy (w.drewN n) row := ⟨rfl, rfl, rfl, Nat.le_refl _, fun _ _ _ => rfl⟩
theorem grown_trans {a b c : World} {row : Option Nat} (h : a.grownBy b row) (k : b.grownBy c row) : a.grownBy c row :=
  ⟨k.os.trans h.os, k.tape.trans h.tape, k.output.trans h.output, Nat.le_trans h.size k.size, fun i hi hr => (k.block i (Nat.lt_of_lt_of_le hi h.size) hr).trans (h.block i hi hr)⟩
theorem grown_set (w : World) (p : Addr) (u : Value) : w.grownBy (w.setCell p u) (some p.block) :=
  ⟨rfl, rfl, rfl, by simp [World.setCell], fun i _ hr => Below.heap_setCell _ _ _ _ (fun e => hr (by rw [e]))⟩

theorem retB {a b : Bool} (h : a = b) : Ending.returned (.bool a) = .returned (.bool b) := by rw [h]
set_option maxHeartbeats 400000 in
theorem specIn (n a b : Int) (w : World) :
    Calls Tryz.prog 50 #[.int .i64 n, .int .i64 a, .int .i64 b] w fun e w' => e = .returned (.bool (decide (a ≤ n) && decide (n ≤ b))) ∧ w = w' := by
  by_cases h1 : n < a
  · go_enter Tryz.func50, Tryz.ntmps50
    go_wp2
    go_ret
    exact ⟨retB (by simp; omega), rfl⟩
  · go_enter Tryz.func50, Tryz.ntmps50
    go_wp2
    go_ret
    exact ⟨retB (by simp; try omega), rfl⟩
theorem specInB (n a b : Int) (w : World) (v : Bool) (h : (decide (a ≤ n) && decide (n ≤ b)) = v) :
    Calls Tryz.prog 50 #[.int .i64 n, .int .i64 a, .int .i64 b] w fun e w' => e = .returned (.bool v) ∧ w = w' := by
  subst h; exact specIn n a b w
end Go.Proofs.YtjhgmmcglonokaaGreatDoor

namespace Go.Proofs.YtjhgmmcglonokaaGreatDoor
open Go.RowKit
set_option linter.unusedVariables false

inductive Tr where
  | node (op num : Int) (name : ByteArray) (kids : List Tr) (marks : List (Int × Int)) : Tr
def Tr.op : Tr → Int | .node o _ _ _ _ => o
def Tr.num : Tr → Int | .node _ n _ _ _ => n
def Tr.name : Tr → ByteArray | .node _ _ s _ _ => s
def Tr.kids : Tr → List Tr | .node _ _ _ k _ => k
def Tr.marks : Tr → List (Int × Int) | .node _ _ _ _ m => m

/-- Marks in memory, of blocks that are told of. -/
def MarksN (N : Nat → Prop) (w : World) (a : Option Addr) (len : Nat) (ms : List (Int × Int)) : Prop :=
  len = ms.length ∧ (len = 0 ∨ ∃ b off, a = some ⟨b, off, none⟩ ∧ N b ∧ b < w.heap.size ∧ ∀ i, i < len → w.cell? ⟨b, off + i * 2, none⟩ = some (.int .i64 (ms.getD i (0, 0)).1) ∧ w.cell? ⟨b, off + i * 2 + 1, none⟩ = some (.int .i64 (ms.getD i (0, 0)).2))

/-- The five fields of a rule. -/
structure Fld where
  op : Int
  num : Int
  name : ByteArray
  ka : Option Addr
  kl : Nat
  kc : Nat
  ma : Option Addr
  ml : Nat
  mc : Nat
def Fld.val (f : Fld) : Value := .agg #[.int .i64 f.op, .int .i64 f.num, .string f.name, .slice f.ka f.kl f.kc, .slice f.ma f.ml f.mc]
def CellsF (w : World) (b o : Nat) (f : Fld) : Prop :=
  w.cell? ⟨b, o, none⟩ = some (.int .i64 f.op) ∧ w.cell? ⟨b, o + 1, none⟩ = some (.int .i64 f.num) ∧ w.cell? ⟨b, o + 2, none⟩ = some (.string f.name) ∧ w.cell? ⟨b, o + 3, none⟩ = some (.slice f.ka f.kl f.kc) ∧ w.cell? ⟨b, o + 4, none⟩ = some (.slice f.ma f.ml f.mc)

mutual
def TrF (N : Nat → Prop) (w : World) : Tr → Fld → Prop
  | .node o n s ks ms, f => f.op = o ∧ f.num = n ∧ f.name = s ∧ f.kl = ks.length ∧ (f.kl ≤ f.kc ∧ f.ml ≤ f.mc) ∧ MarksN N w f.ma f.ml ms ∧ (ks.length = 0 ∨ ∃ b off, f.ka = some ⟨b, off, none⟩ ∧ N b ∧ b < w.heap.size ∧ RowF N w b off ks 0)
def RowF (N : Nat → Prop) (w : World) (b off : Nat) : List Tr → Nat → Prop
  | [], _ => True
  | t :: r, i => (∃ f, CellsF w b (off + i * 5) f ∧ TrF N w t f) ∧ RowF N w b off r (i + 1)
end

theorem rowF_get {N : Nat → Prop} {w : World} {b off : Nat} : ∀ (ks : List Tr) (i j : Nat), RowF N w b off ks i → (h : j < ks.length) → ∃ f, CellsF w b (off + (i + j) * 5) f ∧ TrF N w (ks[j]) f
  | [], i, j, _, h => by simp at h
  | t :: r, i, 0, hr, h => by
    rw [RowF] at hr
    simpa using hr.1
  | t :: r, i, j + 1, hr, h => by
    rw [RowF] at hr
    have := rowF_get r (i + 1) j hr.2 (by simpa using h)
    simpa [Nat.add_assoc, Nat.add_comm 1 j] using this
theorem rowF_of {N : Nat → Prop} {w : World} {b off : Nat} : ∀ (ks : List Tr) (i : Nat), (∀ j, (h : j < ks.length) → ∃ f, CellsF w b (off + (i + j) * 5) f ∧ TrF N w (ks[j]) f) → RowF N w b off ks i
  | [], i, _ => by rw [RowF]; trivial
  | t :: r, i, h => by
    rw [RowF]
    refine ⟨by have h0 := h 0 (by simp); rw [Nat.add_zero] at h0; exact h0, rowF_of r (i + 1) fun j hj => ?_⟩
    have := h (j + 1) (by simpa using hj)
    simpa [Nat.add_assoc, Nat.add_comm 1 j] using this

/-- The blocks that N tells of are as they were. -/
def Same (N : Nat → Prop) (w w' : World) : Prop := w.heap.size ≤ w'.heap.size ∧ ∀ b, N b → b < w.heap.size → w'.heap[b]? = w.heap[b]?
theorem MarksN.kept {N : Nat → Prop} {w w' : World} {a : Option Addr} {len : Nat} {ms : List (Int × Int)} (h : MarksN N w a len ms) (s : Same N w w') : MarksN N w' a len ms := by
  obtain ⟨h1, h2⟩ := h
  refine ⟨h1, ?_⟩
  rcases h2 with h | ⟨b, off, k1, k2, k3, k4⟩
  · exact Or.inl h
  · have e := s.2 b k2 k3
    exact Or.inr ⟨b, off, k1, k2, Nat.lt_of_lt_of_le k3 s.1, fun i hi => ⟨(World.cell?_of_block (a := ⟨b, off + i * 2, none⟩) e).trans (k4 i hi).1, (World.cell?_of_block (a := ⟨b, off + i * 2 + 1, none⟩) e).trans (k4 i hi).2⟩⟩
theorem CellsF.kept {w w' : World} {b o : Nat} {f : Fld} (h : CellsF w b o f) (e : w'.heap[b]? = w.heap[b]?) : CellsF w' b o f := by
  obtain ⟨h0, h1, h2, h3, h4⟩ := h
  exact ⟨(World.cell?_of_block (a := ⟨b, o, none⟩) e).trans h0, (World.cell?_of_block (a := ⟨b, o + 1, none⟩) e).trans h1, (World.cell?_of_block (a := ⟨b, o + 2, none⟩) e).trans h2, (World.cell?_of_block (a := ⟨b, o + 3, none⟩) e).trans h3, (World.cell?_of_block (a := ⟨b, o + 4, none⟩) e).trans h4⟩
mutual
theorem TrF.kept {N : Nat → Prop} {w w' : World} (s : Same N w w') : ∀ (t : Tr) (f : Fld), TrF N w t f → TrF N w' t f
  | .node o n nm ks ms, f, h => by
    rw [TrF] at h ⊢
    obtain ⟨h1, h2, h3, h4, h7, h5, h6⟩ := h
    refine ⟨h1, h2, h3, h4, h7, h5.kept s, ?_⟩
    rcases h6 with h | ⟨b, off, k1, k2, k3, k4⟩
    · exact Or.inl h
    · exact Or.inr ⟨b, off, k1, k2, Nat.lt_of_lt_of_le k3 s.1, RowF.kept s b off (s.2 b k2 k3) ks 0 k4⟩
theorem RowF.kept {N : Nat → Prop} {w w' : World} (s : Same N w w') (b off : Nat) (e : w'.heap[b]? = w.heap[b]?) : ∀ (ks : List Tr) (i : Nat), RowF N w b off ks i → RowF N w' b off ks i
  | [], i, h => by rw [RowF]; trivial
  | t :: r, i, h => by
    rw [RowF] at h ⊢
    obtain ⟨⟨f, h1, h2⟩, h3⟩ := h
    exact ⟨⟨f, h1.kept e, TrF.kept s t f h2⟩, RowF.kept s b off e r (i + 1) h3⟩
end

mutual
def szT : Tr → Nat
  | .node _ _ s ks ms => s.size + (ks.length + szL ks) + ms.length
def szL : List Tr → Nat
  | [] => 0
  | t :: r => szT t + szL r
end
mutual
def wT : Tr → Nat
  | .node _ _ _ ks _ => 1 + wL ks
def wL : List Tr → Nat
  | [] => 0
  | t :: r => wT t + wL r
end
theorem wL_mem {t : Tr} : ∀ {ks : List Tr}, t ∈ ks → wT t ≤ wL ks
  | [], h => by simp at h
  | x :: r, h => by
    rw [wL]
    rcases List.mem_cons.1 h with rfl | h
    · omega
    · have := wL_mem h; omega
end Go.Proofs.YtjhgmmcglonokaaGreatDoor

namespace Go.Proofs.YtjhgmmcglonokaaGreatDoor
open Go.RowKit

def letB (c : UInt8) : Bool := decide (97 ≤ (c.toNat : Int)) && decide ((c.toNat : Int) ≤ 122)
def nameB (l : List UInt8) : Bool := decide (1 ≤ l.length) && decide (l.length ≤ 8) && l.all letB

theorem take_snoc (s : ByteArray) (k : Nat) (h : k < s.size) : s.data.toList.take (k + 1) = s.data.toList.take k ++ [s[k]] := by
  rw [List.take_succ_eq_append_getElem (by simpa using h)]; rfl
theorem all_yes (s : ByteArray) (k : Nat) (h : k < s.size) (ha : (s.data.toList.take k).all letB = true) (h1 : 97 ≤ (s[k].toNat : Int)) (h2 : (s[k].toNat : Int) ≤ 122) :
    (s.data.toList.take (k + 1)).all letB = true := by
  rw [take_snoc s k h, List.all_append, ha]; simp [letB]; omega
theorem name_no (s : ByteArray) (k : Nat) (h : k < s.size) (h1 : (s[k].toNat : Int) < 97 ∨ 122 < (s[k].toNat : Int)) : nameB s.data.toList = false := by
  have hm : s[k] ∈ s.data.toList := by
    have : s[k] = s.data.toList[k]'(by simpa using h) := rfl
    rw [this]; exact List.getElem_mem _
  have : s.data.toList.all letB = false := by
    rw [List.all_eq_false]; exact ⟨_, hm, by simp [letB]; omega⟩
  simp [nameB, this]
theorem name_len (s : ByteArray) (h : s.size < 1 ∨ 8 < s.size) : nameB s.data.toList = false := by
  have : s.data.toList.length = s.size := by simp
  simp only [nameB, this]
  rcases h with h | h
  · simp [show ¬ 1 ≤ s.size by omega]
  · simp [show ¬ s.size ≤ 8 by omega]
theorem name_yes (s : ByteArray) (h1 : 1 ≤ s.size) (h8 : s.size ≤ 8) (ha : (s.data.toList.take s.size).all letB = true) : nameB s.data.toList = true := by
  have e : s.data.toList.length = s.size := by simp
  rw [List.take_of_length_le (by omega)] at ha
  simp [nameB, e, ha, h1, h8]
theorem ret_bool {a b : Bool} (h : a = b) : Ending.returned (.bool a) = .returned (.bool b) := by rw [h]

set_option maxHeartbeats 400000 in
theorem implName (s : ByteArray) (w : World) (hs : s.size ≤ maxLen) :
    Calls Tryz.prog 185 #[.string s] w fun e w' => e = .returned (.bool (nameB s.data.toList)) ∧ w = w' := by
  unfold maxLen at hs
  by_cases h1 : s.size < 1
  · go_enter Tryz.func185, Tryz.ntmps185
    go_wp2
    go_ret
    exact ⟨ret_bool (name_len s (.inl h1)).symm, rfl⟩
  by_cases h8 : 8 < s.size
  · go_enter Tryz.func185, Tryz.ntmps185
    go_wp2
    go_ret
    exact ⟨ret_bool (name_len s (.inr h8)).symm, rfl⟩
  · go_enter Tryz.func185, Tryz.ntmps185
    go_wp2
    go_loop [14] (fun i => ∃ k : Nat, k ≤ s.size ∧ i = .int .i64 k ∧ (s.data.toList.take k).all letB = true) (fun i => s.size - (intOf i).toNat)
    case atStart => exact ⟨0, Nat.zero_le _, rfl, rfl⟩
    case round =>
      obtain ⟨k, hk, rfl, ha⟩ := hrel
      by_cases hlt : k < s.size
      · by_cases c1 : (s[k].toNat : Int) < 97
        · go_wp2
          go_ret
          exact ⟨ret_bool (name_no s k hlt (.inl c1)).symm, rfl⟩
        by_cases c2 : 122 < (s[k].toNat : Int)
        · go_wp2
          go_ret
          exact ⟨ret_bool (name_no s k hlt (.inr c2)).symm, rfl⟩
        · go_wp2
          go_round
          case rel => exact ⟨k + 1, by omega, by go_num, all_yes s k hlt ha (by omega) (by omega)⟩
          case measure => simp [intOf]; omega
      · go_wp2
        go_ret
        obtain rfl : k = s.size := by omega
        exact ⟨ret_bool (name_yes s (by omega) (by omega) ha).symm, rfl⟩

set_option maxHeartbeats 400000 in
theorem specName (s : ByteArray) (w : World) (hs : s.size ≤ maxLen) :
    Calls Tryz.prog 112 #[.string s] w fun e w' => e = .returned (.bool (nameB s.data.toList)) ∧ w = w' := by
  unfold maxLen at hs
  go_enter Tryz.func112, Tryz.ntmps112
  go_wp2
  go_loop [3] (fun i => ∃ k : Nat, k ≤ s.size ∧ i = .int .i64 k ∧ (s.data.toList.take k).all letB = true) (fun i => s.size - (intOf i).toNat)
  case atStart => exact ⟨0, Nat.zero_le _, rfl, rfl⟩
  case round =>
    obtain ⟨k, hk, rfl, ha⟩ := hrel
    by_cases hlt : k < s.size
    · by_cases c1 : (s[k].toNat : Int) < 97
      · go_wp2
        go_ret
        exact ⟨ret_bool (name_no s k hlt (.inl c1)).symm, rfl⟩
      by_cases c2 : 122 < (s[k].toNat : Int)
      · go_wp2
        go_ret
        exact ⟨ret_bool (name_no s k hlt (.inr c2)).symm, rfl⟩
      · go_wp2
        go_round
        case rel => exact ⟨k + 1, by omega, by go_num, all_yes s k hlt ha (by omega) (by omega)⟩
        case measure => simp [intOf]; omega
    · obtain rfl : k = s.size := by omega
      by_cases h1 : s.size < 1
      · go_wp2
        go_ret
        exact ⟨ret_bool (name_len s (.inl h1)).symm, rfl⟩
      by_cases h8 : 8 < s.size
      · go_wp2
        go_ret
        exact ⟨ret_bool (by rw [name_len s (.inr h8)]; simp; omega), rfl⟩
      · go_wp2
        go_ret
        exact ⟨ret_bool (by rw [name_yes s (by omega) (by omega) ha]; simp; omega), rfl⟩

end Go.Proofs.YtjhgmmcglonokaaGreatDoor

namespace Go.Proofs.YtjhgmmcglonokaaGreatDoor
open Go.RowKit
set_option linter.unusedVariables false

def okB (n : Int) : Bool := decide (-1000000000000 ≤ n) && decide (n ≤ 1000000000000)
theorem okB_yes {n : Int} (h : okB n = true) : -1000000000000 ≤ n ∧ n ≤ 1000000000000 := by simpa [okB] using h
theorem okB_mk {n : Int} (h : -1000000000000 ≤ n ∧ n ≤ 1000000000000) : okB n = true := by simp [okB]; omega
end Go.Proofs.YtjhgmmcglonokaaGreatDoor

namespace Go.Proofs.YtjhgmmcglonokaaGreatDoor
open Go.RowKit
set_option linter.unusedVariables false

end Go.Proofs.YtjhgmmcglonokaaGreatDoor

namespace Go.Proofs.YtjhgmmcglonokaaGreatDoor
open Go.RowKit
set_option linter.unusedVariables false

def nearV (t d : Int) : Int := if d < 2 * (t % d) ∨ (2 * (t % d) = d ∧ (t / d) % 2 = 1) then t / d + 1 else t / d

def partR (a n d : Int) : Int := if a < 0 then -(nearV (-a * n) d) else nearV (a * n) d
def partOk (a n d : Int) : Bool := okB a && decide (0 ≤ n) && decide (n ≤ 1000000) && decide (1 ≤ d) && decide (d ≤ 1000000) && okB (partR a n d)
def partV (a n d : Int) : Int := if partOk a n d then partR a n d else 0

end Go.Proofs.YtjhgmmcglonokaaGreatDoor
