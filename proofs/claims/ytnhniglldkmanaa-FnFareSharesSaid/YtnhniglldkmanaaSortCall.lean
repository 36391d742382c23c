/-
  The call of the library's stable sort, by what is left over.
-/
import Derived.Test.YtnhniglldkmanaaSpecMoneyShare
import Derived.Test.YtnhniglldkmanaaShelf
import Derived.Shelf.GgSortMore.Stable
import Derived.RegionTactic
import Derived.ChangeAlike
namespace Go.Proofs.Ytnhniglldkmanaa
open Go.Shelf Go.RowKit Go.Lib Go.Sort
set_option linter.unusedVariables false

noncomputable def siT : TypeInfo := (Try.prog.info? 23).get (by kernel_rfl)
noncomputable def siE : TypeInfo := (Try.prog.info? 3).get (by kernel_rfl)
theorem siK (n : Nat) (h2 : 2 ≤ n) : Lib.swapperK n siE 2 = 5 := by
  have a : siE.hasPointers = false := by kernel_rfl
  have b : siE.bytes = 8 := by kernel_rfl
  have c : (n == 0) = false := by simp; omega
  have d : (n == 1) = false := by simp; omega
  simp [Lib.swapperK, a, b, c, d]

set_option maxHeartbeats 2000000 in
theorem lessLeft (bl bo gl go n : Nat) (W : World) (O : Nat → Nat) (L : Nat → Int) (h1 : W.cell? ⟨bl, 0, none⟩ = some (.slice (some ⟨gl, 0, none⟩) n n)) (h2 : W.cell? ⟨bo, 0, none⟩ = some (.slice (some ⟨go, 0, none⟩) n n))
    (ho : ∀ t, t < n → W.cell? ⟨go, t, none⟩ = some (.int .i64 (O t : Int))) (hO : ∀ t, t < n → O t < n) (hl : ∀ t, t < n → W.cell? ⟨gl, t, none⟩ = some (.int .i64 (L t))) (i j : Nat) (hi : i < n) (hj : j < n) (hn : n ≤ 8) :
    Calls Try.prog 29 #[.int .i64 i, .int .i64 j, .pointer (some ⟨bl, 0, none⟩), .pointer (some ⟨bo, 0, none⟩)] W fun e w' => e = .returned (.bool (decide (L (O j) < L (O i)))) ∧ ∃ q, w' = W.drewN q := by
  have c1 := ho i hi
  have c2 := ho j hj
  have o1 := hO i hi
  have o2 := hO j hj
  have c3 := hl _ o1
  have c4 := hl _ o2
  generalize L (O i) = x at *
  generalize L (O j) = y at *
  have i1 : (i : Int) < n := by omega
  have i2 : (j : Int) < n := by omega
  have i3 : ((O i : Nat) : Int) < n := by omega
  have i4 : ((O j : Nat) : Int) < n := by omega
  have i5 : (0 : Int) ≤ (O i : Nat) := by omega
  have i6 : (0 : Int) ≤ (O j : Nat) := by omega
  clear ho hO hl
  go_enter Try.func29, Try.ntmps29
  go_wp2
  go_quiet (fail)
  go_wp2
  go_ret
  exact ⟨rfl, nq, rfl⟩

def encF {m : Nat} (x : Fin (m + 1)) : Value := .int .i64 (x.val : Int)

set_option maxHeartbeats 2000000 in
theorem sortCall (m bl bo gl go : Nat) (l : Nat → Int) (w : World) (m1 : 1 ≤ m) (m2 : m ≤ 7) (h1 : w.cell? ⟨bl, 0, none⟩ = some (.slice (some ⟨gl, 0, none⟩) (m + 1) (m + 1))) (h2 : w.cell? ⟨bo, 0, none⟩ = some (.slice (some ⟨go, 0, none⟩) (m + 1) (m + 1)))
    (hO : NumsO w go (m + 1) (fun j => (j : Int))) (hL : NumsO w gl (m + 1) l) (n1 : bl ≠ go) (n2 : bo ≠ go) (n3 : gl ≠ go) (k1 : bl < w.heap.size) (k2 : bo < w.heap.size) :
    Calls Try.prog 28 #[.iface 23 (.slice (some ⟨go, 0, none⟩) (m + 1) (m + 1)), .func (Fn.func 29) #[] #[.pointer (some ⟨bl, 0, none⟩), .pointer (some ⟨bo, 0, none⟩)]] w fun e w' =>
      e = .returned (.tuple #[]) ∧ ∃ q os, w' = grow (putRow encF (Sort.ahead w q) go 0 (order (fun x : Fin (m + 1) => l x.val))) os := by
  have hp : (places (m := m)).size = m + 1 := by simp [places]
  have hH : Holds (encF (m := m)) w go 0 places := by
    intro j hj
    rw [hp] at hj
    have := hO.2 j hj
    rw [Nat.zero_add]
    refine ⟨?_, this.2⟩
    rw [this.1]; unfold encF; rw [places_at j hj]
  have hless : LessReads Try.prog 29 #[.pointer (some ⟨bl, 0, none⟩), .pointer (some ⟨bo, 0, none⟩)] (encF (m := m)) (ltS fun x : Fin (m + 1) => l x.val) go 0 (places (m := m)).size w := by
    intro q os dk hs i j hi hj
    rw [hp] at hs hi hj
    have e : sortWorld (encF (m := m)) w go 0 q dk os = putRow (encF (m := m)) (grow (Sort.ahead w q) os) go 0 dk := by
      unfold sortWorld; rw [putRow_grow _ (Sort.ahead w q) _ go 0 _ hO.1]
    have hHg : Holds (encF (m := m)) (grow (Sort.ahead w q) os) go 0 places := holds_grow _ _ _ go 0 places hO.1 (holds_ahead _ _ _ _ _ _ hH)
    have old : ∀ b o : Nat, b ≠ go → b < w.heap.size → (sortWorld (encF (m := m)) w go 0 q dk os).cell? ⟨b, o, none⟩ = w.cell? ⟨b, o, none⟩ := fun b o hb hlt => by
      rw [e, cell?_putRow_other _ _ go 0 dk _ (Or.inl hb), cell?_grow _ _ _ (by show b < w.heap.size; exact hlt)]
      rfl
    refine lessLeft bl bo gl go (m + 1) _ (fun t => (dk[t]!).val) l ((old bl 0 n1 k1).trans h1) ((old bo 0 n2 k2).trans h2) (fun t ht => ?_) (fun t ht => (dk[t]!).isLt) (fun t ht => (old gl t n3 hL.1).trans (hL.2 t ht).1) i j hi hj (by omega)
    rw [e]
    have := cell?_putRow (encF (m := m)) (grow (Sort.ahead w q) os) go 0 places dk hHg (by omega) t (by omega)
    rw [Nat.zero_add] at this
    exact this
  have hS := Any.sort_SliceStable_small Try.laysGt8 23 3 siT siE (by kernel_rfl) (by kernel_rfl) (by kernel_rfl) (by kernel_rfl) 2 (fun _ => by kernel_rfl) (by kernel_rfl) (fun _ => by kernel_rfl) (encF (m := m)) (fun _ => rfl) (ltS fun x : Fin (m + 1) => l x.val) 29 _
    (enters_of Try.func29 (by kernel_rfl) rfl) go 0 (m + 1) places (by omega) (by omega) 39 (by rw [siK _ (by omega)]; kernel_rfl) true
    (fun args W => run_callFunc_extern Try.func39 (by kernel_rfl) (by kernel_rfl) (by kernel_rfl) (e := Extern.ReflectliteSwapper.swap true) (by kernel_rfl) args W) _ hless hH hO.1
  rw [hp] at hS
  exact hS
theorem grownBy_sort {α : Type} [Inhabited α] {enc : α → Value} {w : World} {g n : Nat} {os : Array Obj} (d : Array α) : w.grownBy (grow (putRow enc (Sort.ahead w n) g 0 d) os) (some g) := by
  have hs : (putRow enc (Sort.ahead w n) g 0 d).heap.size = w.heap.size := by simp [putRow, mapBlock, Sort.ahead]
  refine ⟨rfl, rfl, rfl, by show w.heap.size ≤ ((putRow enc (Sort.ahead w n) g 0 d).heap ++ os).size; simp [hs], fun k hk hne => ?_⟩
  have hne' : k ≠ g := fun e => hne (by rw [e])
  rw [heap_grow_old _ _ (by rw [hs]; exact hk)]
  simp [putRow, mapBlock, Sort.ahead, Array.getElem?_modify, Ne.symm hne']

/-- What the sort leaves: the places in order; all else as it was. -/
def Sorted (go n : Nat) (l : Nat → Int) (w : World) (e : Ending) (w' : World) : Prop :=
  e = .returned (.tuple #[]) ∧ ∃ R, Go.Proofs.Ytnhniglldkmanaa.InOrder n l R ∧ (∀ t, t < n → w'.cell? ⟨go, t, none⟩ = some (.int .i64 (R t : Int))) ∧ w.grownBy w' (some go)

theorem inOrder_congr {n : Nat} {l l' : Nat → Int} {R : Nat → Nat} (h : InOrder n l R) (e : ∀ i, i < n → l i = l' i) : InOrder n l' R :=
  ⟨h.lt, h.onto, fun i j hij hj => by rw [← e _ (h.lt j hj), ← e _ (h.lt i (by omega))]; exact h.asc i j hij hj⟩

set_option maxHeartbeats 2000000 in
theorem sortPlaces (n bl bo gl go : Nat) (l : Nat → Int) (w : World) (m1 : 1 ≤ n) (m2 : n ≤ 8) (h1 : w.cell? ⟨bl, 0, none⟩ = some (.slice (some ⟨gl, 0, none⟩) n n)) (h2 : w.cell? ⟨bo, 0, none⟩ = some (.slice (some ⟨go, 0, none⟩) n n))
    (hO : NumsO w go n (fun j => (j : Int))) (hL : NumsO w gl n l) (n1 : bl ≠ go) (n2 : bo ≠ go) (n3 : gl ≠ go) (k1 : bl < w.heap.size) (k2 : bo < w.heap.size) :
    Calls Try.prog 28 #[.iface 23 (.slice (some ⟨go, 0, none⟩) n n), .func (Fn.func 29) #[] #[.pointer (some ⟨bl, 0, none⟩), .pointer (some ⟨bo, 0, none⟩)]] w (Sorted go n l w) := by
  obtain ⟨m, rfl⟩ : ∃ m, n = m + 1 := ⟨n - 1, by omega⟩
  rcases Nat.eq_zero_or_pos m with rfl | hm
  · have hS := Any.sort_SliceStable_tiny (P := Try.prog) Try.laysGt8 23 3 siT siE (by kernel_rfl) (by kernel_rfl) (by kernel_rfl) (by kernel_rfl) 2 (fun _ => by kernel_rfl) (some ⟨go, 0, none⟩) (0 + 1) (0 + 1) (by omega) 36 (by kernel_rfl) (Fn.func 29) #[] #[.pointer (some ⟨bl, 0, none⟩), .pointer (some ⟨bo, 0, none⟩)] w
    refine Calls.mono hS ?_
    rintro e w' ⟨rfl, os, rfl⟩
    refine ⟨rfl, fun i => i, ⟨fun i hi => hi, fun j hj => ⟨j, hj, rfl⟩, fun i j hij hj => by omega⟩, fun t ht => ?_, ⟨rfl, rfl, rfl, by show w.heap.size ≤ (w.heap ++ os).size; simp, fun k hk _ => heap_grow_old _ _ hk⟩⟩
    rw [cell?_grow _ _ _ hO.1]
    exact (hO.2 t ht).1
  · refine (sortCall m bl bo gl go l w hm (by omega) h1 h2 hO hL n1 n2 n3 k1 k2).mono ?_
    rintro e w' ⟨rfl, q, os, rfl⟩
    have hok := order_ok (fun x : Fin (m + 1) => l x.val)
    refine ⟨rfl, _, inOrder_congr hok fun i hi => by simp [hi], fun t ht => ?_, grownBy_sort _⟩
    have hH : Holds (encF (m := m)) w go 0 places := by
      intro j hj
      have hp : (places (m := m)).size = m + 1 := by simp [places]
      rw [hp] at hj
      have := hO.2 j hj
      rw [Nat.zero_add]
      refine ⟨?_, this.2⟩
      rw [this.1]; unfold encF; rw [places_at j hj]
    have hsz : (order (fun x : Fin (m + 1) => l x.val)).size = (places (m := m)).size := by
      have := (insertionSort_holds (swoT (fun x : Fin (m + 1) => l x.val)) places 0 (m + 1) (Nat.zero_le _) (by simp [places])).1.1
      rw [← order_is] at this
      exact this
    have hp : (places (m := m)).size = m + 1 := by simp [places]
    rw [cell?_grow _ _ _ (by show go < (putRow (encF (m := m)) (Sort.ahead w q) go 0 _).heap.size; have := hO.1; simpa [putRow, mapBlock, Sort.ahead] using this)]
    have := cell?_putRow (encF (m := m)) (Sort.ahead w q) go 0 places (order (fun x : Fin (m + 1) => l x.val)) (holds_ahead _ _ _ _ _ _ hH) hsz t (by omega)
    rw [Nat.zero_add] at this
    exact this
end Go.Proofs.Ytnhniglldkmanaa
