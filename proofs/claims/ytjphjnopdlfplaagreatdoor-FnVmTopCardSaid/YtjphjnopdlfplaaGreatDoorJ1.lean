/-
  Small words that all texts of this seat share: what a slice that came in holds, and how a world grows; no law is proved here.
  Rules as trees: what a rule in memory reads as.
  What each of the two functions NameOk returns at every string, and what the law's own text returns: nothing is written.
  What MoneyOk returns, of the program and of its model, at every int: plain integers in, plain integers out, nothing is written.
  What MoneyAdd returns, of the program and of its model, at every two ints: the sum and true, or 0 and false; nothing is written.
  What MoneyPart returns, of the program and of its model, at every three ints: the nearest part and true, or 0 and false; nothing is written.
-/
import Derived.Test.YtjphjnopdlfplaaGreatDoorRows
import Derived.WalkKit
import Derived.WalkSpells
import Derived.WalkLawsBesides
import Derived.Handy
import Derived.Lib.Hide
import Derived.Deep.QuietTactic
import Derived.BigQuiet
namespace Go.Proofs.YtjphjnopdlfplaaGreatDoor
open Go.RowKit
set_option linter.unusedVariables false

def IsRow (k : IntKind) (w : World) (a : Option Addr) (len cap : Nat) (zs : List Int) : Prop :=
  (a = none ∧ len = 0 ∧ cap = 0 ∧ zs = []) ∨
  ∃ x, a = some x ∧ len ≤ cap ∧ cap ≤ maxLen ∧ zs.length = cap ∧ (∀ i, i < zs.length → w.cell? (x.add i) = some (.int k (zs.getD i 0))) ∧ ∀ n ∈ zs, (Lit.int k n).wf = true
def Drew (w w' : World) : Prop := ∃ q, w' = w.drewN q
theorem belowN {B : Nat} {a w : World} (h : Below B a w) (n : Nat) : Below B a (w.drewN n) := h.trans ⟨rfl, rfl, rfl, Nat.le_refl _, fun _ _ => rfl⟩
theorem grownN (w : World) (n : Nat) (row : Option Nat) : w.grownBy (w.drewN n) row := ⟨rfl, rfl, rfl, Nat.le_refl _, fun _ _ _ => rfl⟩
theorem grown_trans {a b c : World} {row : Option Nat} (h : a.grownBy b row) (k : b.grownBy c row) : a.grownBy c row :=
  ⟨k.os.trans h.os, k.tape.trans h.tape, k.output.trans h.output, Nat.le_trans h.size k.size, fun i hi hr => (k.block i (Nat.lt_of_lt_of_le hi h.size) hr).trans (h.block i hi hr)⟩
theorem grown_set (w : World) (p : Addr) (u : Value) : w.grownBy (w.setCell p u) (some p.block) :=
  ⟨rfl, rfl, rfl, by simp [World.setCell], fun i _ hr => Below.heap_setCell _ _ _ _ (fun e => hr (by rw [e]))⟩

theorem retB {a b : Bool} (h : a = b) : Ending.returned (.bool a) = .returned (.bool b) := by rw [h]
theorem retI {a b : Int} (h : a = b) : Ending.returned (.int .i64 a) = .returned (.int .i64 b) := by rw [h]
theorem retIB {a b : Int} {c d : Bool} (h : a = b) (h' : c = d) : Ending.returned (.tuple #[.int .i64 a, .bool c]) = .returned (.tuple #[.int .i64 b, .bool d]) := by rw [h, h']

set_option maxHeartbeats 400000 in
theorem specIn (n a b : Int) (w : World) :
    Calls Tryz.prog 34 #[.int .i64 n, .int .i64 a, .int .i64 b] w fun e w' => e = .returned (.bool (decide (a ≤ n) && decide (n ≤ b))) ∧ w = w' := by
  by_cases h1 : n < a
  · go_enter Tryz.func34, Tryz.ntmps34
    go_wp2
    go_ret
    exact ⟨retB (by simp; omega), rfl⟩
  · go_enter Tryz.func34, Tryz.ntmps34
    go_wp2
    go_ret
    exact ⟨retB (by simp; try omega), rfl⟩
theorem specInB (n a b : Int) (w : World) (v : Bool) (h : (decide (a ≤ n) && decide (n ≤ b)) = v) :
    Calls Tryz.prog 34 #[.int .i64 n, .int .i64 a, .int .i64 b] w fun e w' => e = .returned (.bool v) ∧ w = w' := by
  subst h; exact specIn n a b w
end Go.Proofs.YtjphjnopdlfplaaGreatDoor

namespace Go.Proofs.YtjphjnopdlfplaaGreatDoor
open Go.RowKit
set_option linter.unusedVariables false

inductive Tr where
  | node (op num : Int) (name : ByteArray) (kids : List Tr) (marks : List (Int × Int)) : Tr
def Tr.op : Tr → Int | .node o _ _ _ _ => o
def Tr.num : Tr → Int | .node _ n _ _ _ => n
def Tr.name : Tr → ByteArray | .node _ _ s _ _ => s
def Tr.kids : Tr → List Tr | .node _ _ _ k _ => k
def Tr.marks : Tr → List (Int × Int) | .node _ _ _ _ m => m

/-- Marks in memory, of blocks that are told of. -/
def MarksN (N : Nat → Prop) (w : World) (a : Option Addr) (len : Nat) (ms : List (Int × Int)) : Prop :=
  len = ms.length ∧ (len = 0 ∨ ∃ b off, a = some ⟨b, off, none⟩ ∧ N b ∧ b < w.heap.size ∧ ∀ i, i < len → w.cell? ⟨b, off + i * 2, none⟩ = some (.int .i64 (ms.getD i (0, 0)).1) ∧ w.cell? ⟨b, off + i * 2 + 1, none⟩ = some (.int .i64 (ms.getD i (0, 0)).2))

/-- The five fields of a rule. -/
structure Fld where
  op : Int
  num : Int
  name : ByteArray
  ka : Option Addr
  kl : Nat
  kc : Nat
  ma : Option Addr
  ml : Nat
  mc : Nat
def Fld.val (f : Fld) : Value := .agg #[.int .i64 f.op, .int .i64 f.num, .string f.name, .slice f.ka f.kl f.kc, .slice f.ma f.ml f.mc]
def CellsF (w : World) (b o : Nat) (f : Fld) : Prop :=
  w.cell? ⟨b, o, none⟩ = some (.int .i64 f.op) ∧ w.cell? ⟨b, o + 1, none⟩ = some (.int .i64 f.num) ∧ w.cell? ⟨b, o + 2, none⟩ = some (.string f.name) ∧ w.cell? ⟨b, o + 3, none⟩ = some (.slice f.ka f.kl f.kc) ∧ w.cell? ⟨b, o + 4, none⟩ = some (.slice f.ma f.ml f.mc)

mutual
def TrF (N : Nat → Prop) (w : World) : Tr → Fld → Prop
  | .node o n s ks ms, f => f.op = o ∧ f.num = n ∧ f.name = s ∧ f.kl = ks.length ∧ (f.kl ≤ f.kc ∧ f.ml ≤ f.mc) ∧ MarksN N w f.ma f.ml ms ∧ (ks.length = 0 ∨ ∃ b off, f.ka = some ⟨b, off, none⟩ ∧ N b ∧ b < w.heap.size ∧ RowF N w b off ks 0)
def RowF (N : Nat → Prop) (w : World) (b off : Nat) : List Tr → Nat → Prop
  | [], _ => True
  | t :: r, i => (∃ f, CellsF w b (off + i * 5) f ∧ TrF N w t f) ∧ RowF N w b off r (i + 1)
end

theorem rowF_get {N : Nat → Prop} {w : World} {b off : Nat} : ∀ (ks : List Tr) (i j : Nat), RowF N w b off ks i → (h : j < ks.length) → ∃ f, CellsF w b (off + (i + j) * 5) f ∧ TrF N w (ks[j]) f
  | [], i, j, _, h => by simp at h
  | t :: r, i, 0, hr, h => by
    rw [RowF] at hr
    simpa using hr.1
  | t :: r, i, j + 1, hr, h => by
    rw [RowF] at hr
    have := rowF_get r (i + 1) j hr.2 (by simpa using h)
    simpa [Nat.add_assoc, Nat.add_comm 1 j] using this
theorem rowF_of {N : Nat → Prop} {w : World} {b off : Nat} : ∀ (ks : List Tr) (i : Nat), (∀ j, (h : j < ks.length) → ∃ f, CellsF w b (off + (i + j) * 5) f ∧ TrF N w (ks[j]) f) → RowF N w b off ks i
  | [], i, _ => by rw [RowF]; trivial
  | t :: r, i, h => by
    rw [RowF]
    refine ⟨by have h0 := h 0 (by simp); rw [Nat.add_zero] at h0; exact h0, rowF_of r (i + 1) fun j hj => ?_⟩
    have := h (j + 1) (by simpa using hj)
    simpa [Nat.add_assoc, Nat.add_comm 1 j] using this

/-- The blocks that N tells of are as they were. -/
def Same (N : Nat → Prop) (w w' : World) : Prop := w.heap.size ≤ w'.heap.size ∧ ∀ b, N b → b < w.heap.size → w'.heap[b]? = w.heap[b]?
theorem MarksN.kept {N : Nat → Prop} {w w' : World} {a : Option Addr} {len : Nat} {ms : List (Int × Int)} (h : MarksN N w a len ms) (s : Same N w w') : MarksN N w' a len ms := by
  obtain ⟨h1, h2⟩ := h
  refine ⟨h1, ?_⟩
  rcases h2 with h | ⟨b, off, k1, k2, k3, k4⟩
  · exact Or.inl h
  · have e := s.2 b k2 k3
    exact Or.inr ⟨b, off, k1, k2, Nat.lt_of_lt_of_le k3 s.1, fun i hi => ⟨(World.cell?_of_block (a := ⟨b, off + i * 2, none⟩) e).trans (k4 i hi).1, (World.cell?_of_block (a := ⟨b, off + i * 2 + 1, none⟩) e).trans (k4 i hi).2⟩⟩
theorem CellsF.kept {w w' : World} {b o : Nat} {f : Fld} (h : CellsF w b o f) (e : w'.heap[b]? = w.heap[b]?) : CellsF w' b o f := by
  obtain ⟨h0, h1, h2, h3, h4⟩ := h
  exact ⟨(World.cell?_of_block (a := ⟨b, o, none⟩) e).trans h0, (World.cell?_of_block (a := ⟨b, o + 1, none⟩) e).trans h1, (World.cell?_of_block (a := ⟨b, o + 2, none⟩) e).trans h2, (World.cell?_of_block (a := ⟨b, o + 3, none⟩) e).trans h3, (World.cell?_of_block (a := ⟨b, o + 4, none⟩) e).trans h4⟩
mutual
theorem TrF.kept {N : Nat → Prop} {w w' : World} (s : Same N w w') : ∀ (t : Tr) (f : Fld), TrF N w t f → TrF N w' t f
  | .node o n nm ks ms, f, h => by
    rw [TrF] at h ⊢
    obtain ⟨h1, h2, h3, h4, h7, h5, h6⟩ := h
    refine ⟨h1, h2, h3, h4, h7, h5.kept s, ?_⟩
    rcases h6 with h | ⟨b, off, k1, k2, k3, k4⟩
    · exact Or.inl h
    · exact Or.inr ⟨b, off, k1, k2, Nat.lt_of_lt_of_le k3 s.1, RowF.kept s b off (s.2 b k2 k3) ks 0 k4⟩
theorem RowF.kept {N : Nat → Prop} {w w' : World} (s : Same N w w') (b off : Nat) (e : w'.heap[b]? = w.heap[b]?) : ∀ (ks : List Tr) (i : Nat), RowF N w b off ks i → RowF N w' b off ks i
  | [], i, h => by rw [RowF]; trivial
  | t :: r, i, h => by
    rw [RowF] at h ⊢
    obtain ⟨⟨f, h1, h2⟩, h3⟩ := h
    exact ⟨⟨f, h1.kept e, TrF.kept s t f h2⟩, RowF.kept s b off e r (i + 1) h3⟩
end

mutual
def szT : Tr → Nat
  | .node _ _ s ks ms => s.size + (ks.length + szL ks) + ms.length
def szL : List Tr → Nat
  | [] => 0
  | t :: r => szT t + szL r
end
mutual
def wT : Tr → Nat
  | .node _ _ _ ks _ => 1 + wL ks
def wL : List Tr → Nat
  | [] => 0
  | t :: r => wT t + wL r
end
theorem wL_mem {t : Tr} : ∀ {ks : List Tr}, t ∈ ks → wT t ≤ wL ks
  | [], h => by simp at h
  | x :: r, h => by
    rw [wL]
    rcases List.mem_cons.1 h with rfl | h
    · omega
    · have := wL_mem h; omega
end Go.Proofs.YtjphjnopdlfplaaGreatDoor

namespace Go.Proofs.YtjphjnopdlfplaaGreatDoor
open Go.RowKit

def letB (c : UInt8) : Bool := decide (97 ≤ (c.toNat : Int)) && decide ((c.toNat : Int) ≤ 122)
def nameB (l : List UInt8) : Bool := decide (1 ≤ l.length) && decide (l.length ≤ 8) && l.all letB

theorem take_snoc (s : ByteArray) (k : Nat) (h : k < s.size) : s.data.toList.take (k + 1) = s.data.toList.take k ++ [s[k]] := by
  rw [List.take_succ_eq_append_getElem (by simpa using h)]; rfl
theorem all_yes (s : ByteArray) (k : Nat) (h : k < s.size) (ha : (s.data.toList.take k).all letB = true) (h1 : 97 ≤ (s[k].toNat : Int)) (h2 : (s[k].toNat : Int) ≤ 122) :
    (s.data.toList.take (k + 1)).all letB = true := by
  rw [take_snoc s k h, List.all_append, ha]; simp [letB]; omega
theorem name_no (s : ByteArray) (k : Nat) (h : k < s.size) (h1 : (s[k].toNat : Int) < 97 ∨ 122 < (s[k].toNat : Int)) : nameB s.data.toList = false := by
  have hm : s[k] ∈ s.data.toList := by
    have : s[k] = s.data.toList[k]'(by simpa using h) := rfl
    rw [this]; exact List.getElem_mem _
  have : s.data.toList.all letB = false := by
    rw [List.all_eq_false]; exact ⟨_, hm, by simp [letB]; omega⟩
  simp [nameB, this]
theorem name_len (s : ByteArray) (h : s.size < 1 ∨ 8 < s.size) : nameB s.data.toList = false := by
  have : s.data.toList.length = s.size := by simp
  simp only [nameB, this]
  rcases h with h | h
  · simp [show ¬ 1 ≤ s.size by omega]
  · simp [show ¬ s.size ≤ 8 by omega]
theorem name_yes (s : ByteArray) (h1 : 1 ≤ s.size) (h8 : s.size ≤ 8) (ha : (s.data.toList.take s.size).all letB = true) : nameB s.data.toList = true := by
  have e : s.data.toList.length = s.size := by simp
  rw [List.take_of_length_le (by omega)] at ha
  simp [nameB, e, ha, h1, h8]
theorem ret_bool {a b : Bool} (h : a = b) : Ending.returned (.bool a) = .returned (.bool b) := by rw [h]

set_option maxHeartbeats 400000 in
theorem implName (s : ByteArray) (w : World) (hs : s.size ≤ maxLen) :
    Calls Tryz.prog 157 #[.string s] w fun e w' => e = .returned (.bool (nameB s.data.toList)) ∧ w = w' := by
  unfold maxLen at hs
  by_cases h1 : s.size < 1
  · go_enter Tryz.func157, Tryz.ntmps157
    go_wp2
    go_ret
    exact ⟨ret_bool (name_len s (.inl h1)).symm, rfl⟩
  by_cases h8 : 8 < s.size
  · go_enter Tryz.func157, Tryz.ntmps157
    go_wp2
    go_ret
    exact ⟨ret_bool (name_len s (.inr h8)).symm, rfl⟩
  · go_enter Tryz.func157, Tryz.ntmps157
    go_wp2
    go_loop [14] (fun i => ∃ k : Nat, k ≤ s.size ∧ i = .int .i64 k ∧ (s.data.toList.take k).all letB = true) (fun i => s.size - (intOf i).toNat)
    case atStart => exact ⟨0, Nat.zero_le _, rfl, rfl⟩
    case round =>
      obtain ⟨k, hk, rfl, ha⟩ := hrel
      by_cases hlt : k < s.size
      · by_cases c1 : (s[k].toNat : Int) < 97
        · go_wp2
          go_ret
          exact ⟨ret_bool (name_no s k hlt (.inl c1)).symm, rfl⟩
        by_cases c2 : 122 < (s[k].toNat : Int)
        · go_wp2
          go_ret
          exact ⟨ret_bool (name_no s k hlt (.inr c2)).symm, rfl⟩
        · go_wp2
          go_round
          case rel => exact ⟨k + 1, by omega, by go_num, all_yes s k hlt ha (by omega) (by omega)⟩
          case measure => simp [intOf]; omega
      · go_wp2
        go_ret
        obtain rfl : k = s.size := by omega
        exact ⟨ret_bool (name_yes s (by omega) (by omega) ha).symm, rfl⟩

set_option maxHeartbeats 400000 in
theorem specName (s : ByteArray) (w : World) (hs : s.size ≤ maxLen) :
    Calls Tryz.prog 106 #[.string s] w fun e w' => e = .returned (.bool (nameB s.data.toList)) ∧ w = w' := by
  unfold maxLen at hs
  go_enter Tryz.func106, Tryz.ntmps106
  go_wp2
  go_loop [3] (fun i => ∃ k : Nat, k ≤ s.size ∧ i = .int .i64 k ∧ (s.data.toList.take k).all letB = true) (fun i => s.size - (intOf i).toNat)
  case atStart => exact ⟨0, Nat.zero_le _, rfl, rfl⟩
  case round =>
    obtain ⟨k, hk, rfl, ha⟩ := hrel
    by_cases hlt : k < s.size
    · by_cases c1 : (s[k].toNat : Int) < 97
      · go_wp2
        go_ret
        exact ⟨ret_bool (name_no s k hlt (.inl c1)).symm, rfl⟩
      by_cases c2 : 122 < (s[k].toNat : Int)
      · go_wp2
        go_ret
        exact ⟨ret_bool (name_no s k hlt (.inr c2)).symm, rfl⟩
      · go_wp2
        go_round
        case rel => exact ⟨k + 1, by omega, by go_num, all_yes s k hlt ha (by omega) (by omega)⟩
        case measure => simp [intOf]; omega
    · obtain rfl : k = s.size := by omega
      by_cases h1 : s.size < 1
      · go_wp2
        go_ret
        exact ⟨ret_bool (name_len s (.inl h1)).symm, rfl⟩
      by_cases h8 : 8 < s.size
      · go_wp2
        go_ret
        exact ⟨ret_bool (by rw [name_len s (.inr h8)]; simp; omega), rfl⟩
      · go_wp2
        go_ret
        exact ⟨ret_bool (by rw [name_yes s (by omega) (by omega) ha]; simp; omega), rfl⟩

end Go.Proofs.YtjphjnopdlfplaaGreatDoor

namespace Go.Proofs.YtjphjnopdlfplaaGreatDoor
open Go.RowKit
set_option linter.unusedVariables false

def okB (n : Int) : Bool := decide (-1000000000000 ≤ n) && decide (n ≤ 1000000000000)
theorem okB_yes {n : Int} (h : okB n = true) : -1000000000000 ≤ n ∧ n ≤ 1000000000000 := by simpa [okB] using h
theorem okB_mk {n : Int} (h : -1000000000000 ≤ n ∧ n ≤ 1000000000000) : okB n = true := by simp [okB]; omega
theorem okB_no {n : Int} (h : n < -1000000000000 ∨ 1000000000000 < n) : okB n = false := by simp [okB]; omega

set_option maxHeartbeats 400000 in
theorem specMoneyOk (n : Int) (w : World) :
    Calls Tryz.prog 114 #[.int .i64 n] w fun e w' => e = .returned (.bool (okB n)) ∧ w = w' := by
  by_cases h1 : n < -1000000000000
  · go_enter Tryz.func114, Tryz.ntmps114
    go_wp2
    go_ret
    exact ⟨retB (by rw [okB_no (.inl h1)]; try simp), rfl⟩
  · go_enter Tryz.func114, Tryz.ntmps114
    go_wp2
    go_ret
    exact ⟨retB (by simp [okB]; try omega), rfl⟩

set_option maxHeartbeats 400000 in
theorem implMoneyOk (n : Int) (w : World) :
    Calls Tryz.prog 29 #[.int .i64 n] w fun e w' => e = .returned (.bool (okB n)) ∧ w = w' := by
  by_cases h1 : n < -1000000000000
  · go_enter Tryz.func29, Tryz.ntmps29
    go_wp2
    go_ret
    exact ⟨retB (by rw [okB_no (.inl h1)]; try simp), rfl⟩
  · go_enter Tryz.func29, Tryz.ntmps29
    go_wp2
    go_ret
    exact ⟨retB (by simp [okB]; try omega), rfl⟩

end Go.Proofs.YtjphjnopdlfplaaGreatDoor

namespace Go.Proofs.YtjphjnopdlfplaaGreatDoor
open Go.RowKit
set_option linter.unusedVariables false

def addOk (a b : Int) : Bool := okB a && okB b && okB (a + b)
def addV (a b : Int) : Int := if addOk a b then a + b else 0

set_option maxHeartbeats 400000 in
theorem implMoneyAdd (a b : Int) (w : World) :
    Calls Tryz.prog 31 #[.int .i64 a, .int .i64 b] w fun e w' => e = .returned (.tuple #[.int .i64 (addV a b), .bool (addOk a b)]) ∧ w = w' := by
  cases ha : okB a with
  | false =>
    have hr : addV a b = 0 ∧ addOk a b = false := by simp [addV, addOk, ha]
    have Hr := Lib.hid hr
    have Ha := Lib.hid ha
    clear hr ha
    go_enter Tryz.func31, Tryz.ntmps31
    go_wp2_with fail
    refine (implMoneyOk _ _).mono ?_
    rintro e w' ⟨rfl, rfl⟩
    rw [Ha.out]
    go_wp2
    go_ret2
    exact ⟨retIB Hr.out.1.symm Hr.out.2.symm, rfl⟩
  | true =>
    have a1 := okB_yes ha
    obtain ⟨a1, a2⟩ := a1
    cases hb : okB b with
    | false =>
      have hr : addV a b = 0 ∧ addOk a b = false := by simp [addV, addOk, hb]
      have Hr := Lib.hid hr
      have Ha := Lib.hid ha
      have Hb := Lib.hid hb
      clear hr ha hb
      go_enter Tryz.func31, Tryz.ntmps31
      go_wp2_with fail
      refine (implMoneyOk _ _).mono ?_
      rintro e w' ⟨rfl, rfl⟩
      rw [Ha.out]
      go_wp2_with fail
      refine (implMoneyOk _ _).mono ?_
      rintro e w' ⟨rfl, rfl⟩
      rw [Hb.out]
      go_wp2
      go_ret2
      exact ⟨retIB Hr.out.1.symm Hr.out.2.symm, rfl⟩
    | true =>
      obtain ⟨b1, b2⟩ := okB_yes hb
      cases hc : okB (a + b) with
      | false =>
        have hr : addV a b = 0 ∧ addOk a b = false := by simp [addV, addOk, hc]
        have Hr := Lib.hid hr
        have Ha := Lib.hid ha
        have Hb := Lib.hid hb
        have Hc := Lib.hid hc
        clear hr ha hb hc
        go_enter Tryz.func31, Tryz.ntmps31
        go_wp2_with fail
        refine (implMoneyOk _ _).mono ?_
        rintro e w' ⟨rfl, rfl⟩
        rw [Ha.out]
        go_wp2_with fail
        refine (implMoneyOk _ _).mono ?_
        rintro e w' ⟨rfl, rfl⟩
        rw [Hb.out]
        go_wp2_with fail
        refine (implMoneyOk _ _).mono ?_
        rintro e w' ⟨rfl, rfl⟩
        rw [Hc.out]
        go_wp2
        go_ret2
        exact ⟨retIB Hr.out.1.symm Hr.out.2.symm, rfl⟩
      | true =>
        have hr : addV a b = a + b ∧ addOk a b = true := by simp [addV, addOk, ha, hb, hc]
        have Hr := Lib.hid hr
        have Ha := Lib.hid ha
        have Hb := Lib.hid hb
        have Hc := Lib.hid hc
        clear hr ha hb hc
        go_enter Tryz.func31, Tryz.ntmps31
        go_wp2_with fail
        refine (implMoneyOk _ _).mono ?_
        rintro e w' ⟨rfl, rfl⟩
        rw [Ha.out]
        go_wp2_with fail
        refine (implMoneyOk _ _).mono ?_
        rintro e w' ⟨rfl, rfl⟩
        rw [Hb.out]
        go_wp2_with fail
        refine (implMoneyOk _ _).mono ?_
        rintro e w' ⟨rfl, rfl⟩
        rw [Hc.out]
        go_wp2
        go_ret2
        exact ⟨retIB Hr.out.1.symm Hr.out.2.symm, rfl⟩

end Go.Proofs.YtjphjnopdlfplaaGreatDoor

namespace Go.Proofs.YtjphjnopdlfplaaGreatDoor
open Go.RowKit
set_option linter.unusedVariables false

def nearV (t d : Int) : Int := if d < 2 * (t % d) ∨ (2 * (t % d) = d ∧ (t / d) % 2 = 1) then t / d + 1 else t / d

set_option maxHeartbeats 400000 in
theorem specNear (t d : Int) (w : World) (h0 : 0 ≤ t) (h1 : t ≤ 1000000000000000000) (d1 : 1 ≤ d) (d2 : d ≤ 1000000) :
    Calls Tryz.prog 122 #[.int .i64 t, .int .i64 d] w fun e w' => e = .returned (.int .i64 (nearV t d)) ∧ w = w' := by
  have q0 : 0 ≤ t / d := Int.ediv_nonneg h0 (by omega)
  have q1 : t / d ≤ t := Int.ediv_le_self _ h0
  have r0 : 0 ≤ t % d := Int.emod_nonneg _ (by omega)
  have r1 : t % d < d := Int.emod_lt_of_pos _ (by omega)
  by_cases c1 : d < 2 * (t % d)
  · go_enter Tryz.func122, Tryz.ntmps122
    go_wp2
    go_ret
    exact ⟨retI (by rw [nearV, if_pos (.inl c1)]), rfl⟩
  by_cases c2 : 2 * (t % d) = d
  · by_cases c3 : (t / d) % 2 = 1
    · have e2 : (2 * (t % d) == d) = true := by simpa using c2
      have e3 : (t / d % 2 == 1) = true := by simpa using c3
      have hr : nearV t d = t / d + 1 := by rw [nearV, if_pos (.inr ⟨c2, c3⟩)]
      have Hr := Lib.hid hr
      clear c2 c3 hr
      go_enter Tryz.func122, Tryz.ntmps122
      go_wp2
      go_ret
      exact ⟨retI Hr.out.symm, rfl⟩
    · have e2 : (2 * (t % d) == d) = true := by simpa using c2
      have e3 : (t / d % 2 == 1) = false := by simpa using c3
      have hr : nearV t d = t / d := by rw [nearV, if_neg (by omega)]
      have Hr := Lib.hid hr
      clear c2 c3 hr
      go_enter Tryz.func122, Tryz.ntmps122
      go_wp2
      go_ret
      exact ⟨retI Hr.out.symm, rfl⟩
  · have e2 : (2 * (t % d) == d) = false := by simpa using c2
    have hr : nearV t d = t / d := by rw [nearV, if_neg (by omega)]
    have Hr := Lib.hid hr
    clear hr
    go_enter Tryz.func122, Tryz.ntmps122
    go_wp2
    go_ret
    exact ⟨retI Hr.out.symm, rfl⟩

theorem near_bd (t d : Int) (h0 : 0 ≤ t) (d1 : 1 ≤ d) : 0 ≤ nearV t d ∧ nearV t d ≤ t + 1 := by
  have q0 : 0 ≤ t / d := Int.ediv_nonneg h0 (by omega)
  have q1 : t / d ≤ t := Int.ediv_le_self _ h0
  unfold nearV
  split <;> omega
theorem prod_bd (a n : Int) (a0 : 0 ≤ a) (a1 : a ≤ 1000000000000) (n0 : 0 ≤ n) (n1 : n ≤ 1000000) : 0 ≤ a * n ∧ a * n ≤ 1000000000000000000 :=
  ⟨Int.mul_nonneg a0 n0, Int.le_trans (Int.mul_le_mul a1 n1 n0 (by omega)) (by omega)⟩

def partR (a n d : Int) : Int := if a < 0 then -(nearV (-a * n) d) else nearV (a * n) d
def partOk (a n d : Int) : Bool := okB a && decide (0 ≤ n) && decide (n ≤ 1000000) && decide (1 ≤ d) && decide (d ≤ 1000000) && okB (partR a n d)
def partV (a n d : Int) : Int := if partOk a n d then partR a n d else 0

set_option maxHeartbeats 400000 in
theorem implSign (a : Int) (s : Int) (w : World) (h : (a < 0 ∧ s = -1) ∨ (0 ≤ a ∧ s = 1)) :
    Calls Tryz.prog 172 #[.int .i64 a] w fun e w' => e = .returned (.int .i64 s) ∧ w = w' := by
  rcases h with ⟨h, rfl⟩ | ⟨h, rfl⟩
  · go_enter Tryz.func172, Tryz.ntmps172
    go_wp2
    go_ret
    exact ⟨rfl, rfl⟩
  · go_enter Tryz.func172, Tryz.ntmps172
    go_wp2
    go_ret
    exact ⟨rfl, rfl⟩

theorem near_up1 {t d : Int} (h : d < 2 * (t % d)) : nearV t d = t / d + 1 := by rw [nearV, if_pos (.inl h)]
theorem near_up2 {t d : Int} (h : 2 * (t % d) = d) (h2 : (t / d % 2 == 1) = true) : nearV t d = t / d + 1 := by
  have : t / d % 2 = 1 := by simpa using h2
  rw [nearV, if_pos (.inr ⟨h, this⟩)]
theorem near_lo2 {t d : Int} (h0 : 2 * (t % d) ≤ d) (h2 : (t / d % 2 == 1) = false) : nearV t d = t / d := by
  have : ¬ t / d % 2 = 1 := by simpa using h2
  rw [nearV, if_neg (by omega)]
theorem near_lo1 {t d : Int} (h : ¬ 2 * (t % d) = d) (h0 : 2 * (t % d) ≤ d) : nearV t d = t / d := by rw [nearV, if_neg (by omega)]
theorem partR_neg {a n d x : Int} (h : a < 0) (hx : nearV (-a * n) d = x) : -x = partR a n d := by rw [partR, if_pos h, hx]
theorem partR_pos {a n d x : Int} (h : 0 ≤ a) (hx : nearV (a * n) d = x) : x = partR a n d := by rw [partR, if_neg (by omega), hx]

set_option maxHeartbeats 400000 in
theorem implPart (a n d : Int) (w : World) (a0 : -1000000000000 ≤ a) (a1 : a ≤ 1000000000000) (n0 : 0 ≤ n) (n1 : n ≤ 1000000) (d1 : 1 ≤ d) (d2 : d ≤ 1000000) :
    Calls Tryz.prog 171 #[.int .i64 a, .int .i64 n, .int .i64 d] w fun e w' => e = .returned (.int .i64 (partR a n d)) ∧ Drew w w' := by
  by_cases ha : a < 0
  · obtain ⟨t0, t1⟩ := prod_bd (-a) n (by omega) (by omega) n0 n1
    have q0 : 0 ≤ -a * n / d := Int.ediv_nonneg t0 (by omega)
    have q1 : -a * n / d ≤ -a * n := Int.ediv_le_self _ t0
    have r0 : 0 ≤ -a * n % d := Int.emod_nonneg _ (by omega)
    have r1 : -a * n % d < d := Int.emod_lt_of_pos _ (by omega)
    go_enter Tryz.func171, Tryz.ntmps171
    go_wp2_with (go_at_call 172; refine (implSign a (-1) _ (.inl ⟨ha, rfl⟩)).mono ?_; rintro e w' ⟨rfl, rfl⟩)
    go_quiet (fail)
    go_wp2
    all_goals
      go_ret
      refine ⟨retI ?_, ⟨_, rfl⟩⟩
      refine Eq.trans ?_ (partR_neg ha (by first | exact near_up1 ‹_› | exact near_up2 ‹_› ‹_› | exact near_lo2 ‹_› ‹_› | exact near_lo1 ‹_› ‹_›))
      first | rfl | omega
  · obtain ⟨t0, t1⟩ := prod_bd a n (by omega) (by omega) n0 n1
    have q0 : 0 ≤ a * n / d := Int.ediv_nonneg t0 (by omega)
    have q1 : a * n / d ≤ a * n := Int.ediv_le_self _ t0
    have r0 : 0 ≤ a * n % d := Int.emod_nonneg _ (by omega)
    have r1 : a * n % d < d := Int.emod_lt_of_pos _ (by omega)
    go_enter Tryz.func171, Tryz.ntmps171
    go_wp2_with (go_at_call 172; refine (implSign a 1 _ (.inr ⟨by omega, rfl⟩)).mono ?_; rintro e w' ⟨rfl, rfl⟩)
    go_quiet (fail)
    go_wp2
    all_goals
      go_ret
      refine ⟨retI ?_, ⟨_, rfl⟩⟩
      refine Eq.trans ?_ (partR_pos (by omega) (by first | exact near_up1 ‹_› | exact near_up2 ‹_› ‹_› | exact near_lo2 ‹_› ‹_› | exact near_lo1 ‹_› ‹_›))
      first | rfl | omega

set_option maxHeartbeats 400000 in
theorem implOk (n : Int) (w : World) :
    Calls Tryz.prog 61 #[.int .i64 n] w fun e w' => e = .returned (.bool (okB n)) ∧ w = w' := by
  by_cases h1 : n < -1000000000000
  · go_enter Tryz.func61, Tryz.ntmps61
    go_wp2
    go_ret
    exact ⟨retB (by rw [okB_no (.inl h1)]; try simp), rfl⟩
  · go_enter Tryz.func61, Tryz.ntmps61
    go_wp2
    go_ret
    exact ⟨retB (by simp [okB]; try omega), rfl⟩

set_option maxHeartbeats 400000 in
theorem implMoneyPart (a n d : Int) (w : World) :
    Calls Tryz.prog 170 #[.int .i64 a, .int .i64 n, .int .i64 d] w fun e w' => e = .returned (.tuple #[.int .i64 (partV a n d), .bool (partOk a n d)]) ∧ Drew w w' := by
  cases ha : okB a with
  | false =>
    have hr : partV a n d = 0 ∧ partOk a n d = false := by simp [partV, partOk, ha]
    have Hr := Lib.hid hr
    have Ha := Lib.hid ha
    clear hr ha
    go_enter Tryz.func170, Tryz.ntmps170
    go_wp2_with (go_at_call 29; refine (implMoneyOk _ _).mono ?_; rintro e w' ⟨rfl, rfl⟩; rw [Ha.out])
    go_ret2
    exact ⟨retIB Hr.out.1.symm Hr.out.2.symm, ⟨0, rfl⟩⟩
  | true =>
    have a1 := okB_yes ha
    obtain ⟨a1, a2⟩ := a1
    have Ha := Lib.hid ha
    clear ha
    by_cases c : n < 0 ∨ 1000000 < n ∨ d < 1 ∨ 1000000 < d
    · have hr : partV a n d = 0 ∧ partOk a n d = false := by
        have : partOk a n d = false := by simp [partOk, Ha.out]; omega
        simp [partV, this]
      have Hr := Lib.hid hr
      clear hr
      by_cases n0 : n < 0
      · go_enter Tryz.func170, Tryz.ntmps170
        go_wp2_with (go_at_call 29; refine (implMoneyOk _ _).mono ?_; rintro e w' ⟨rfl, rfl⟩; rw [Ha.out])
        go_ret2
        exact ⟨retIB Hr.out.1.symm Hr.out.2.symm, ⟨0, rfl⟩⟩
      by_cases n1 : 1000000 < n
      · go_enter Tryz.func170, Tryz.ntmps170
        go_wp2_with (go_at_call 29; refine (implMoneyOk _ _).mono ?_; rintro e w' ⟨rfl, rfl⟩; rw [Ha.out])
        go_ret2
        exact ⟨retIB Hr.out.1.symm Hr.out.2.symm, ⟨0, rfl⟩⟩
      by_cases d0 : d < 1
      · go_enter Tryz.func170, Tryz.ntmps170
        go_wp2_with (go_at_call 29; refine (implMoneyOk _ _).mono ?_; rintro e w' ⟨rfl, rfl⟩; rw [Ha.out])
        go_ret2
        exact ⟨retIB Hr.out.1.symm Hr.out.2.symm, ⟨0, rfl⟩⟩
      · have d1 : 1000000 < d := by omega
        go_enter Tryz.func170, Tryz.ntmps170
        go_wp2_with (go_at_call 29; refine (implMoneyOk _ _).mono ?_; rintro e w' ⟨rfl, rfl⟩; rw [Ha.out])
        go_ret2
        exact ⟨retIB Hr.out.1.symm Hr.out.2.symm, ⟨0, rfl⟩⟩
    · obtain ⟨n0, n1, d0, d1⟩ : 0 ≤ n ∧ n ≤ 1000000 ∧ 1 ≤ d ∧ d ≤ 1000000 := by omega
      clear c
      cases hp : okB (partR a n d) with
      | false =>
        have hr : partV a n d = 0 ∧ partOk a n d = false := by simp [partV, partOk, hp]
        have Hr := Lib.hid hr
        have Hp := Lib.hid hp
        clear hr hp
        go_enter Tryz.func170, Tryz.ntmps170
        go_wp2_with fail
        refine (implMoneyOk _ _).mono ?_
        rintro e w' ⟨rfl, rfl⟩
        rw [Ha.out]
        go_wp2_with fail
        refine (implPart a n d _ a1 a2 n0 n1 d0 d1).mono ?_
        rintro e w' ⟨rfl, q, rfl⟩
        go_wp2_with fail
        refine (implOk _ _).mono ?_
        rintro e w' ⟨rfl, rfl⟩
        rw [Hp.out]
        go_wp2
        go_ret2
        exact ⟨retIB Hr.out.1.symm Hr.out.2.symm, ⟨_, rfl⟩⟩
      | true =>
        have hr : partV a n d = partR a n d ∧ partOk a n d = true := by
          have : partOk a n d = true := by simp [partOk, hp, Ha.out]; omega
          simp [partV, this]
        have Hr := Lib.hid hr
        have Hp := Lib.hid hp
        clear hr hp
        go_enter Tryz.func170, Tryz.ntmps170
        go_wp2_with fail
        refine (implMoneyOk _ _).mono ?_
        rintro e w' ⟨rfl, rfl⟩
        rw [Ha.out]
        go_wp2_with fail
        refine (implPart a n d _ a1 a2 n0 n1 d0 d1).mono ?_
        rintro e w' ⟨rfl, q, rfl⟩
        go_wp2_with fail
        refine (implOk _ _).mono ?_
        rintro e w' ⟨rfl, rfl⟩
        rw [Hp.out]
        go_wp2
        go_ret2
        exact ⟨retIB Hr.out.1.symm Hr.out.2.symm, ⟨_, rfl⟩⟩

set_option maxHeartbeats 800000 in
theorem specMoneyPart (a n d : Int) (w : World) :
    Calls Tryz.prog 115 #[.int .i64 a, .int .i64 n, .int .i64 d] w fun e w' => e = .returned (.tuple #[.int .i64 (partV a n d), .bool (partOk a n d)]) ∧ w = w' := by
  cases ha : okB a with
  | false =>
    have hr : partV a n d = 0 ∧ partOk a n d = false := by simp [partV, partOk, ha]
    have Hr := Lib.hid hr
    have Ha := Lib.hid ha
    clear hr ha
    go_enter Tryz.func115, Tryz.ntmps115
    go_wp2_with fail
    refine (specMoneyOk _ _).mono ?_
    rintro e w' ⟨rfl, rfl⟩
    rw [Ha.out]
    go_wp2
    go_ret2
    exact ⟨retIB Hr.out.1.symm Hr.out.2.symm, rfl⟩
  | true =>
    have a1 := okB_yes ha
    obtain ⟨a1, a2⟩ := a1
    have Ha := Lib.hid ha
    clear ha
    by_cases c : n < 0 ∨ 1000000 < n ∨ d < 1 ∨ 1000000 < d
    · have hr : partV a n d = 0 ∧ partOk a n d = false := by
        have : partOk a n d = false := by simp [partOk, Ha.out]; omega
        simp [partV, this]
      have Hr := Lib.hid hr
      clear hr
      by_cases n0 : n < 0 ∨ 1000000 < n
      · have N0 := Lib.hid n0
        have C0 := Lib.hid c
        clear n0 c
        go_enter Tryz.func115, Tryz.ntmps115
        go_wp2_with fail
        refine (specMoneyOk _ _).mono ?_
        rintro e w' ⟨rfl, rfl⟩
        rw [Ha.out]
        go_wp2_with fail
        refine (specInB _ _ _ _ false (by have := N0.out; simp; omega)).mono ?_
        rintro e w' ⟨rfl, rfl⟩
        go_wp2
        go_ret2
        exact ⟨retIB Hr.out.1.symm Hr.out.2.symm, rfl⟩
      · obtain ⟨n0, n1⟩ : 0 ≤ n ∧ n ≤ 1000000 := by omega
        have d0 : d < 1 ∨ 1000000 < d := by omega
        have D0 := Lib.hid d0
        clear d0 c
        go_enter Tryz.func115, Tryz.ntmps115
        go_wp2_with fail
        refine (specMoneyOk _ _).mono ?_
        rintro e w' ⟨rfl, rfl⟩
        rw [Ha.out]
        go_wp2_with fail
        refine (specInB _ _ _ _ true (by simp; omega)).mono ?_
        rintro e w' ⟨rfl, rfl⟩
        go_wp2_with fail
        refine (specInB _ _ _ _ false (by have := D0.out; simp; omega)).mono ?_
        rintro e w' ⟨rfl, rfl⟩
        go_wp2
        go_ret2
        exact ⟨retIB Hr.out.1.symm Hr.out.2.symm, rfl⟩
    · obtain ⟨n0, n1, d0, d1⟩ : 0 ≤ n ∧ n ≤ 1000000 ∧ 1 ≤ d ∧ d ≤ 1000000 := by omega
      clear c
      by_cases hn : a < 0
      · obtain ⟨t0, t1⟩ := prod_bd (-a) n (by omega) (by omega) n0 n1
        obtain ⟨v0, v1⟩ := near_bd (-a * n) d t0 d0
        have hR : partR a n d = -nearV (-a * n) d := by rw [partR, if_pos hn]
        cases hp : okB (partR a n d) with
        | false =>
          have hr : partV a n d = 0 ∧ partOk a n d = false := by simp [partV, partOk, hp]
          rw [hR] at hp
          have Hr := Lib.hid hr
          have Hp := Lib.hid hp
          clear hr hp hR
          go_enter Tryz.func115, Tryz.ntmps115
          go_wp2_with fail
          refine (specMoneyOk _ _).mono ?_
          rintro e w' ⟨rfl, rfl⟩
          rw [Ha.out]
          go_wp2_with fail
          refine (specInB _ _ _ _ true (by simp; omega)).mono ?_
          rintro e w' ⟨rfl, rfl⟩
          go_wp2_with fail
          refine (specInB _ _ _ _ true (by simp; omega)).mono ?_
          rintro e w' ⟨rfl, rfl⟩
          go_wp2_with fail
          refine (specNear _ _ _ t0 t1 d0 d1).mono ?_
          rintro e w' ⟨rfl, rfl⟩
          go_wp2_with fail
          refine (specMoneyOk _ _).mono ?_
          rintro e w' ⟨rfl, rfl⟩
          rw [Hp.out]
          go_wp2
          go_ret2
          exact ⟨retIB Hr.out.1.symm Hr.out.2.symm, rfl⟩
        | true =>
          have hr : partV a n d = partR a n d ∧ partOk a n d = true := by
            have : partOk a n d = true := by simp [partOk, hp, Ha.out]; omega
            simp [partV, this]
          rw [hR] at hp hr
          have Hr := Lib.hid hr
          have Hp := Lib.hid hp
          clear hr hp hR
          go_enter Tryz.func115, Tryz.ntmps115
          go_wp2_with fail
          refine (specMoneyOk _ _).mono ?_
          rintro e w' ⟨rfl, rfl⟩
          rw [Ha.out]
          go_wp2_with fail
          refine (specInB _ _ _ _ true (by simp; omega)).mono ?_
          rintro e w' ⟨rfl, rfl⟩
          go_wp2_with fail
          refine (specInB _ _ _ _ true (by simp; omega)).mono ?_
          rintro e w' ⟨rfl, rfl⟩
          go_wp2_with fail
          refine (specNear _ _ _ t0 t1 d0 d1).mono ?_
          rintro e w' ⟨rfl, rfl⟩
          go_wp2_with fail
          refine (specMoneyOk _ _).mono ?_
          rintro e w' ⟨rfl, rfl⟩
          rw [Hp.out]
          go_wp2
          go_ret2
          exact ⟨retIB Hr.out.1.symm Hr.out.2.symm, rfl⟩
      · obtain ⟨t0, t1⟩ := prod_bd a n (by omega) (by omega) n0 n1
        obtain ⟨v0, v1⟩ := near_bd (a * n) d t0 d0
        have hR : partR a n d = nearV (a * n) d := by rw [partR, if_neg hn]
        cases hp : okB (partR a n d) with
        | false =>
          have hr : partV a n d = 0 ∧ partOk a n d = false := by simp [partV, partOk, hp]
          rw [hR] at hp
          have Hr := Lib.hid hr
          have Hp := Lib.hid hp
          clear hr hp hR
          go_enter Tryz.func115, Tryz.ntmps115
          go_wp2_with fail
          refine (specMoneyOk _ _).mono ?_
          rintro e w' ⟨rfl, rfl⟩
          rw [Ha.out]
          go_wp2_with fail
          refine (specInB _ _ _ _ true (by simp; omega)).mono ?_
          rintro e w' ⟨rfl, rfl⟩
          go_wp2_with fail
          refine (specInB _ _ _ _ true (by simp; omega)).mono ?_
          rintro e w' ⟨rfl, rfl⟩
          go_wp2_with fail
          refine (specNear _ _ _ t0 t1 d0 d1).mono ?_
          rintro e w' ⟨rfl, rfl⟩
          go_wp2_with fail
          refine (specMoneyOk _ _).mono ?_
          rintro e w' ⟨rfl, rfl⟩
          rw [Hp.out]
          go_wp2
          go_ret2
          exact ⟨retIB Hr.out.1.symm Hr.out.2.symm, rfl⟩
        | true =>
          have hr : partV a n d = partR a n d ∧ partOk a n d = true := by
            have : partOk a n d = true := by simp [partOk, hp, Ha.out]; omega
            simp [partV, this]
          rw [hR] at hp hr
          have Hr := Lib.hid hr
          have Hp := Lib.hid hp
          clear hr hp hR
          go_enter Tryz.func115, Tryz.ntmps115
          go_wp2_with fail
          refine (specMoneyOk _ _).mono ?_
          rintro e w' ⟨rfl, rfl⟩
          rw [Ha.out]
          go_wp2_with fail
          refine (specInB _ _ _ _ true (by simp; omega)).mono ?_
          rintro e w' ⟨rfl, rfl⟩
          go_wp2_with fail
          refine (specInB _ _ _ _ true (by simp; omega)).mono ?_
          rintro e w' ⟨rfl, rfl⟩
          go_wp2_with fail
          refine (specNear _ _ _ t0 t1 d0 d1).mono ?_
          rintro e w' ⟨rfl, rfl⟩
          go_wp2_with fail
          refine (specMoneyOk _ _).mono ?_
          rintro e w' ⟨rfl, rfl⟩
          rw [Hp.out]
          go_wp2
          go_ret2
          exact ⟨retIB Hr.out.1.symm Hr.out.2.symm, rfl⟩

end Go.Proofs.YtjphjnopdlfplaaGreatDoor
