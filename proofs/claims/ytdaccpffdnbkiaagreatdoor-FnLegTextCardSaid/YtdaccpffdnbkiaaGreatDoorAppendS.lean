/-
  append of a slice of which nothing, or something that can be read, is to be appended; and what holds between the operations of 'append(append(append(none, xs[:k]...), h), xs[k:]...)'.
-/
import Derived.Test.YtdaccpffdnbkiaaGreatDoorJ31
import Derived.Test.YtdaccpffdnbkiaaGreatDoorJ29
import Derived.Test.YtdaccpffdnbkiaaGreatDoorFree
import Derived.Maps.AppendAt
namespace Go.Proofs.YtdaccpffdnbkiaaGreatDoor
open Go.RowKit
set_option linter.unusedVariables false
set_option linter.unusedSimpArgs false

def Src (w : World) (a : Option Addr) (m size : Nat) (news : List Value) : Prop := news.length = m * size ∧ (0 < m → ∃ ad, a = some ad ∧ ∀ j u, news[j]? = some u → w.cell? (ad.add j) = some u)

theorem run_append_src {P : Program} (w : World) (base : Nat) (t ty e : TypeId) (i : TypeInfo) (z : Value) (size bytes : Nat) (ht : P.underlying t = some (.slice e)) (hi : P.info? e = some i) (hz : i.zero = some z)
    (hsize : i.size = size) (hby : i.bytes = bytes) (hzs : z.cells.size = size) (hsz : 0 < size)
    (v : Value) (n : Nat) (xs : List Value) (hown : w.ownsRow base e size v n xs)
    (a : Option Addr) (m c : Nat) (news : List Value) (hs : Src w a m size news) (h1 : ∀ u ∈ news, u.oneCell' = true)
    (h63 : n + m ≤ maxLen) (hbytes : (n + m) * bytes ≤ 140737488355328) (hbase : base ≤ w.heap.size) :
    ∃ v' w', (Builtin.append_ #[t, t] ty #[v, .slice a m c]).run P w = .ok v' w' ∧ w'.ownsRow base e size v' (n + m) (xs ++ news) ∧ w.grownBy w' v.ownBlock ∧
      (v'.ownBlock = v.ownBlock ∨ v'.ownBlock = some w.heap.size) := by
  rcases Nat.eq_zero_or_pos m with rfl | hm
  · have hn : news = [] := List.eq_nil_of_length_eq_zero (by have := hs.1; omega)
    subst hn
    rw [List.append_nil, Nat.add_zero]
    refine ⟨v, w, ?_, hown, ⟨rfl, rfl, rfl, Nat.le_refl _, fun _ _ _ => rfl⟩, .inl rfl⟩
    have hf : (Builtin.firstCells size 0 (.slice a 0 c)).run P w = .ok #[] w := by
      cases a with
      | none => exact run_firstCells_none w size 0 0 c
      | some ad => exact run_firstCells_some w size 0 ad 0 c [] (by simp) (by intro j v h; simp at h)
    subst hsize
    rcases hown.2 with ⟨rfl, h0⟩ | ⟨g, cap, cur, rfl, -, -, hc, -⟩
    · subst h0
      simp [Builtin.append_, run_underlying ht, sizeOf, typeInfo, hi, Builtin.lenOf, hf]
    · have hc' : n ≤ cap := by omega
      simp [Builtin.append_, run_underlying ht, sizeOf, typeInfo, hi, Builtin.lenOf, hf, hc', storeCells]
  · obtain ⟨ad, rfl, hc⟩ := hs.2 hm
    obtain ⟨v', w', hr, h2, h3, _, h5⟩ := run_append_own_at (P := P) w base t ty e i z size bytes ht hi hz hsize hby hzs hsz v n xs hown ad m c news hs.1 hc h1 h63 hbytes hbase
    exact ⟨v', w', hr, h2, h3, h5⟩

theorem wpList_append_src {P : Program} {ops : Array Oper} {o : Oper} {rest : List Oper} {a : Act} {w : World} {Q : Exit → Act → World → Prop} (hgd : o.guard = none) (s x : Operand) (t : TypeId)
    (ho : o.op = .call { callee := .builtin .append, args := #[s, x], argTypes := #[t, t] })
    (base : Nat) (e : TypeId) (i : TypeInfo) (z : Value) (size bytes : Nat) (ht : P.underlying t = some (.slice e)) (hi : P.info? e = some i) (hz : i.zero = some z)
    (hsize : i.size = size) (hby : i.bytes = bytes) (hzs : z.cells.size = size) (hsz : 0 < size)
    (v : Value) (n : Nat) (xs : List Value) (hs : a.eval s = v) (hown : w.ownsRow base e size v n xs)
    (ad : Option Addr) (m c : Nat) (news : List Value) (hx : a.eval x = .slice ad m c) (hsrc : Src w ad m size news) (h1 : ∀ u ∈ news, u.oneCell' = true)
    (h63 : n + m ≤ maxLen) (hbytes : (n + m) * bytes ≤ 140737488355328) (hbase : base ≤ w.heap.size)
    (h : ∀ v' w', w'.ownsRow base e size v' (n + m) (xs ++ news) → w.grownBy w' v.ownBlock → (v'.ownBlock = v.ownBlock ∨ v'.ownBlock = some w.heap.size) → wpList P ops Q rest (a.put o.dst v') w') :
    wpList P ops Q (o :: rest) a w := by
  refine wpList_step fun K hK => ?_
  rw [if_pos (by simp [Region.wanted, hgd])]
  obtain ⟨v', w', hr, h2, h3, h4⟩ := run_append_src (P := P) w base t o.type e i z size bytes ht hi hz hsize hby hzs hsz v n xs hown ad m c news hsrc h1 h63 hbytes hbase
  unfold Oper.wp execOp
  simp only [ho, resolve, invoke, builtin, Sem.run_bind, Sem.run_pure, Result.andThen_ok, List.map_toArray, List.map_cons, List.map_nil, hs, hx, hr]
  exact hK _ _ (h v' w' h2 h3 h4)

theorem wpList_slice_h {P : Program} {ops : Array Oper} {o : Oper} {rest : List Oper} {a : Act} {w : World} {Q : Exit → Act → World → Prop} (hgd : o.guard = none) (t : TypeId) (x hi : Operand)
    (ho : o.op = .slice t x none (some hi) none) (ht : P.underlying t = some (.slice (P.elem t))) (ad : Option Addr) (n c k size : Nat) (hx : a.eval x = .slice ad n c) (hh : a.eval hi = .int .i64 (k : Int)) (hk : k ≤ c)
    (hs : (sizeOf (P.elem t)).run P w = .ok size w) (v : Value) (hv : v = sliced ad 0 k c size) (h : wpList P ops Q rest (a.put o.dst v) w) : wpList P ops Q (o :: rest) a w := by
  subst hv
  refine wpList_step fun K hK => ?_
  rw [if_pos (by simp [Region.wanted, hgd])]
  have hr := run_slice_h (P := P) w t ad n c ht .i64 (k : Int) (by omega) (by omega)
  rw [hs] at hr
  simp only [Result.andThen, Int.toNat_natCast] at hr
  unfold Oper.wp execOp
  simp only [ho, hx, hh, Option.map, run_sliceAt_slice _ _ _ _ _ _ ht, Sem.run_bind, Sem.run_pure, hr, Result.andThen]
  exact hK _ _ h
theorem wpList_slice_l {P : Program} {ops : Array Oper} {o : Oper} {rest : List Oper} {a : Act} {w : World} {Q : Exit → Act → World → Prop} (hgd : o.guard = none) (t : TypeId) (x lo : Operand)
    (ho : o.op = .slice t x (some lo) none none) (ht : P.underlying t = some (.slice (P.elem t))) (ad : Option Addr) (n c k size : Nat) (hx : a.eval x = .slice ad n c) (hh : a.eval lo = .int .i64 (k : Int)) (hk : k ≤ n)
    (hs : (sizeOf (P.elem t)).run P w = .ok size w) (v : Value) (hv : v = sliced ad k n c size) (h : wpList P ops Q rest (a.put o.dst v) w) : wpList P ops Q (o :: rest) a w := by
  subst hv
  refine wpList_step fun K hK => ?_
  rw [if_pos (by simp [Region.wanted, hgd])]
  have hr := run_slice_l (P := P) w t ad n c ht .i64 (k : Int) (by omega) (by omega)
  rw [hs] at hr
  simp only [Result.andThen, Int.toNat_natCast] at hr
  unfold Oper.wp execOp
  simp only [ho, hx, hh, Option.map, run_sliceAt_slice _ _ _ _ _ _ ht, Sem.run_bind, Sem.run_pure, hr, Result.andThen]
  exact hK _ _ h
theorem own_mono {w : World} {base base' : Nat} {e : TypeId} {size : Nat} {v : Value} {n : Nat} {xs : List Value} (h : w.ownsRow base e size v n xs) (hb : base' ≤ base) : w.ownsRow base' e size v n xs :=
  ⟨h.1, h.2.imp id fun ⟨g, cap, cur, q1, q2, q3⟩ => ⟨g, cap, cur, q1, Nat.le_trans hb q2, q3⟩⟩
/-- What holds between the operations: numbers 0, 5, 7, 8, 13, 15 make and store; all others leave what is known ahead. -/
structure H6 (w1 : World) (bx : Nat) (X Y Z : List Value) (nx ny nz : Nat) (ROW : Array Value) (cst : Nat → Value) (L : Nat → Bool) (f : Nat → Value) (w : World) : Prop where
  below : L 15 = false → Below w1.heap.size w1 w
  cst : ∀ i, i ≠ 0 → i ≠ 5 → i ≠ 7 → i ≠ 8 → i ≠ 13 → i ≠ 15 → L i = true → f i = cst i
  e0 : L 0 = true → L 5 = false → w.ownsRow w1.heap.size 58 3 (f 0) 0 []
  e5 : L 5 = true → L 8 = false → w.ownsRow w1.heap.size 58 3 (f 5) nx X
  e7 : L 7 = true → L 8 = false → ∃ g, f 7 = .slice (some ⟨g, 0, none⟩) 1 1 ∧ g < w.heap.size ∧ w.heap[g]? = some (.cells ROW 58 (0, 0)) ∧ (L 0 = true → L 5 = false → (f 0).ownBlock ≠ some g)
  e8 : L 8 = true → L 13 = false → w.ownsRow w1.heap.size 58 3 (f 8) ny Y
  e13 : L 13 = true → L 15 = false → w.ownsRow w1.heap.size 58 3 (f 13) nz Z
  e15 : L 15 = true → ∃ w0, Below w1.heap.size w1 w0 ∧ w0.ownsRow w1.heap.size 58 3 (f 13) nz Z ∧ w = w0.setCell ⟨bx, 9, none⟩ (f 13)
section
variable {w1 : World} {bx : Nat} {X Y Z : List Value} {nx ny nz : Nat} {ROW : Array Value} {cst : Nat → Value} {L : Nat → Bool} {f : Nat → Value} {w : World}
theorem H6.const (h : H6 w1 bx X Y Z nx ny nz ROW cst L f w) {i : Nat} {v : Value} (h0 : i ≠ 0) (h5 : i ≠ 5) (h7 : i ≠ 7) (h8 : i ≠ 8) (h13 : i ≠ 13) (h15 : i ≠ 15) (hv : v = cst i) : H6 w1 bx X Y Z nx ny nz ROW cst (upd L i true) (upd f i v) w := by
  have u : ∀ {α : Type} (g : Nat → α) (x : α) (j : Nat), i ≠ j → upd g i x j = g j := fun g x j hj => upd_ne g x (Ne.symm hj)
  refine ⟨?_, ?_, ?_, ?_, ?_, ?_, ?_, ?_⟩
  · rw [u _ _ _ h15]; exact h.below
  · intro j j0 j5 j7 j8 j13 j15 hj
    by_cases e : j = i
    · subst e; rw [upd_self, hv]
    · rw [upd_ne _ _ e] at hj ⊢; exact h.cst j j0 j5 j7 j8 j13 j15 hj
  · rw [u _ _ _ h0, u _ _ _ h5, u _ _ _ h0]; exact h.e0
  · rw [u _ _ _ h5, u _ _ _ h8, u _ _ _ h5]; exact h.e5
  · rw [u _ _ _ h7, u _ _ _ h8, u _ _ _ h7, u _ _ _ h0, u _ _ _ h5, u _ _ _ h0]; exact h.e7
  · rw [u _ _ _ h8, u _ _ _ h13, u _ _ _ h8]; exact h.e8
  · rw [u _ _ _ h13, u _ _ _ h15, u _ _ _ h13]; exact h.e13
  · rw [u _ _ _ h15, u _ _ _ h13]; exact h.e15
theorem H6.op0 (h : H6 w1 bx X Y Z nx ny nz ROW cst L f w) (h0 : L 0 = false) (h15 : L 15 = false) (hcl : L 5 = true → L 0 = true) :
    H6 w1 bx X Y Z nx ny nz ROW cst (upd L 0 true) (upd f 0 (.slice (some ⟨w.heap.size, 0, none⟩) 0 0)) (w.alloc (.cells #[] 58)) := by
  have u : ∀ {α : Type} (g : Nat → α) (x : α) (j : Nat), j ≠ 0 → upd g 0 x j = g j := fun g x j hj => upd_ne g x hj
  have hb := h.below h15
  refine ⟨?_, ?_, ?_, ?_, ?_, ?_, ?_, ?_⟩
  · rw [u _ _ _ (by decide)]; exact fun _ => hb.alloc hb.size _
  · intro j j0 j5 j7 j8 j13 j15 hj
    rw [u _ _ _ j0] at hj ⊢; exact h.cst j j0 j5 j7 j8 j13 j15 hj
  · rw [upd_self, upd_self]
    exact fun _ _ => own_mono (own0 w _ rfl _ _) hb.size
  · rw [u _ _ _ (by decide), u _ _ _ (by decide), u _ _ _ (by decide)]; exact fun a b => (h.e5 a b).alloc _
  · rw [u _ _ _ (by decide), u _ _ _ (by decide), u _ _ _ (by decide), upd_self, u _ _ _ (by decide), upd_self]
    intro a b
    obtain ⟨g, q1, q2, q3, q4⟩ := h.e7 a b
    refine ⟨g, q1, by simp only [World.size_alloc]; omega, (Below.heap_alloc _ _ _ q2).trans q3, fun _ _ e => ?_⟩
    simp [Value.ownBlock] at e
    omega
  · rw [u _ _ _ (by decide), u _ _ _ (by decide), u _ _ _ (by decide)]; exact fun a b => (h.e8 a b).alloc _
  · rw [u _ _ _ (by decide), u _ _ _ (by decide), u _ _ _ (by decide)]; exact fun a b => (h.e13 a b).alloc _
  · rw [u _ _ _ (by decide)]; exact fun a => by rw [h15] at a; cases a
theorem H6.op7 (h : H6 w1 bx X Y Z nx ny nz ROW cst L f w) (h7 : L 7 = false) (h15 : L 15 = false) :
    H6 w1 bx X Y Z nx ny nz ROW cst (upd L 7 true) (upd f 7 (.slice (some ⟨w.heap.size, 0, none⟩) 1 1)) (w.alloc (.cells ROW 58)) := by
  have u : ∀ {α : Type} (g : Nat → α) (x : α) (j : Nat), j ≠ 7 → upd g 7 x j = g j := fun g x j hj => upd_ne g x hj
  have hb := h.below h15
  refine ⟨?_, ?_, ?_, ?_, ?_, ?_, ?_, ?_⟩
  · rw [u _ _ _ (by decide)]; exact fun _ => hb.alloc hb.size _
  · intro j j0 j5 j7 j8 j13 j15 hj
    rw [u _ _ _ j7] at hj ⊢; exact h.cst j j0 j5 j7 j8 j13 j15 hj
  · rw [u _ _ _ (by decide), u _ _ _ (by decide), u _ _ _ (by decide)]; exact fun a b => (h.e0 a b).alloc _
  · rw [u _ _ _ (by decide), u _ _ _ (by decide), u _ _ _ (by decide)]; exact fun a b => (h.e5 a b).alloc _
  · rw [upd_self, u _ _ _ (by decide), upd_self, u _ _ _ (by decide), u _ _ _ (by decide), u _ _ _ (by decide)]
    intro a b
    refine ⟨w.heap.size, rfl, by simp, heap_alloc_new w _, fun a b e => ?_⟩
    have := (h.e0 a b).lt _ e
    omega
  · rw [u _ _ _ (by decide), u _ _ _ (by decide), u _ _ _ (by decide)]; exact fun a b => (h.e8 a b).alloc _
  · rw [u _ _ _ (by decide), u _ _ _ (by decide), u _ _ _ (by decide)]; exact fun a b => (h.e13 a b).alloc _
  · rw [u _ _ _ (by decide)]; exact fun a => by rw [h15] at a; cases a
/-- Behind an append: of what lies ahead of all nothing has turned. -/
theorem below_own {w' : World} {v : Value} {n size : Nat} {e : TypeId} {xs : List Value} (hb : Below w1.heap.size w1 w) (ho : w.ownsRow w1.heap.size e size v n xs) (hg : w.grownBy w' v.ownBlock) : Below w1.heap.size w1 w' :=
  hb.grown hg hb.size (fun q e => (ho.lt q e).1)
theorem H6.op5 (h : H6 w1 bx X Y Z nx ny nz ROW cst L f w) (h0 : L 0 = true) (h5 : L 5 = false) (h15 : L 15 = false) (hcl8 : L 8 = true → L 5 = true) (hcl13 : L 13 = true → L 8 = true) {v : Value} {w' : World}
    (ho : w'.ownsRow w1.heap.size 58 3 v nx X) (hg : w.grownBy w' (f 0).ownBlock) : H6 w1 bx X Y Z nx ny nz ROW cst (upd L 5 true) (upd f 5 v) w' := by
  have u : ∀ {α : Type} (g : Nat → α) (x : α) (j : Nat), j ≠ 5 → upd g 5 x j = g j := fun g x j hj => upd_ne g x hj
  have h8 : L 8 = false := by cases hx : L 8 with | false => rfl | true => rw [hcl8 hx] at h5; cases h5
  have h13 : L 13 = false := by cases hx : L 13 with | false => rfl | true => rw [hcl13 hx] at h8; cases h8
  have hb := below_own (h.below h15) (h.e0 h0 h5) hg
  refine ⟨?_, ?_, ?_, ?_, ?_, ?_, ?_, ?_⟩
  · exact fun _ => hb
  · intro j j0 j5 j7 j8 j13 j15 hj
    rw [u _ _ _ j5] at hj ⊢; exact h.cst j j0 j5 j7 j8 j13 j15 hj
  · rw [upd_self]; exact fun _ a => by cases a
  · rw [upd_self]; exact fun _ _ => by rw [upd_self]; exact ho
  · rw [u _ _ _ (by decide), u _ _ _ (by decide), u _ _ _ (by decide), u _ _ _ (by decide), upd_self]
    intro a b
    obtain ⟨g, q1, q2, q3, q4⟩ := h.e7 a b
    exact ⟨g, q1, Nat.lt_of_lt_of_le q2 hg.size, (hg.block g q2 (fun e => q4 h0 h5 e.symm)).trans q3, fun _ a => by cases a⟩
  · rw [u _ _ _ (by decide)]; exact fun a => by rw [h8] at a; cases a
  · rw [u _ _ _ (by decide)]; exact fun a => by rw [h13] at a; cases a
  · rw [u _ _ _ (by decide)]; exact fun a => by rw [h15] at a; cases a
theorem H6.op8 (h : H6 w1 bx X Y Z nx ny nz ROW cst L f w) (h5 : L 5 = true) (h8 : L 8 = false) (h15 : L 15 = false) (hcl13 : L 13 = true → L 8 = true) {v : Value} {w' : World}
    (ho : w'.ownsRow w1.heap.size 58 3 v ny Y) (hg : w.grownBy w' (f 5).ownBlock) : H6 w1 bx X Y Z nx ny nz ROW cst (upd L 8 true) (upd f 8 v) w' := by
  have u : ∀ {α : Type} (g : Nat → α) (x : α) (j : Nat), j ≠ 8 → upd g 8 x j = g j := fun g x j hj => upd_ne g x hj
  have h13 : L 13 = false := by cases hx : L 13 with | false => rfl | true => rw [hcl13 hx] at h8; cases h8
  have hb := below_own (h.below h15) (h.e5 h5 h8) hg
  refine ⟨?_, ?_, ?_, ?_, ?_, ?_, ?_, ?_⟩
  · exact fun _ => hb
  · intro j j0 j5 j7 j8 j13 j15 hj
    rw [u _ _ _ j8] at hj ⊢; exact h.cst j j0 j5 j7 j8 j13 j15 hj
  · rw [u _ _ _ (by decide : 5 ≠ 8), h5]; exact fun _ a => by cases a
  · rw [upd_self]; exact fun _ a => by cases a
  · rw [upd_self]; exact fun _ a => by cases a
  · rw [upd_self]; exact fun _ _ => by rw [upd_self]; exact ho
  · rw [u _ _ _ (by decide)]; exact fun a => by rw [h13] at a; cases a
  · rw [u _ _ _ (by decide)]; exact fun a => by rw [h15] at a; cases a
theorem H6.op13 (h : H6 w1 bx X Y Z nx ny nz ROW cst L f w) (h8 : L 8 = true) (h13 : L 13 = false) (h15 : L 15 = false) (h5 : L 5 = true) {v : Value} {w' : World}
    (ho : w'.ownsRow w1.heap.size 58 3 v nz Z) (hg : w.grownBy w' (f 8).ownBlock) : H6 w1 bx X Y Z nx ny nz ROW cst (upd L 13 true) (upd f 13 v) w' := by
  have u : ∀ {α : Type} (g : Nat → α) (x : α) (j : Nat), j ≠ 13 → upd g 13 x j = g j := fun g x j hj => upd_ne g x hj
  have hb := below_own (h.below h15) (h.e8 h8 h13) hg
  refine ⟨?_, ?_, ?_, ?_, ?_, ?_, ?_, ?_⟩
  · exact fun _ => hb
  · intro j j0 j5 j7 j8 j13 j15 hj
    rw [u _ _ _ j13] at hj ⊢; exact h.cst j j0 j5 j7 j8 j13 j15 hj
  · rw [u _ _ _ (by decide : 5 ≠ 13), h5]; exact fun _ a => by cases a
  · rw [u _ _ _ (by decide : 8 ≠ 13), h8]; exact fun _ a => by cases a
  · rw [u _ _ _ (by decide : 8 ≠ 13), h8]; exact fun _ a => by cases a
  · rw [upd_self]; exact fun _ a => by cases a
  · rw [upd_self]; exact fun _ _ => by rw [upd_self]; exact ho
  · rw [u _ _ _ (by decide)]; exact fun a => by rw [h15] at a; cases a
theorem H6.op15 (h : H6 w1 bx X Y Z nx ny nz ROW cst L f w) (h0 : L 0 = true) (h5 : L 5 = true) (h7 : L 7 = true) (h8 : L 8 = true) (h13 : L 13 = true) (h15 : L 15 = false) {v : Value} :
    H6 w1 bx X Y Z nx ny nz ROW cst (upd L 15 true) (upd f 15 v) (w.setCell ⟨bx, 9, none⟩ (f 13)) := by
  have u : ∀ {α : Type} (g : Nat → α) (x : α) (j : Nat), j ≠ 15 → upd g 15 x j = g j := fun g x j hj => upd_ne g x hj
  refine ⟨?_, ?_, ?_, ?_, ?_, ?_, ?_, ?_⟩
  · rw [upd_self]; exact fun a => by cases a
  · intro j j0 j5 j7 j8 j13 j15 hj
    rw [u _ _ _ j15] at hj ⊢; exact h.cst j j0 j5 j7 j8 j13 j15 hj
  · rw [u _ _ _ (by decide : 5 ≠ 15), h5]; exact fun _ a => by cases a
  · rw [u _ _ _ (by decide : 8 ≠ 15), h8]; exact fun _ a => by cases a
  · rw [u _ _ _ (by decide : 8 ≠ 15), h8]; exact fun _ a => by cases a
  · rw [u _ _ _ (by decide : 13 ≠ 15), h13]; exact fun _ a => by cases a
  · rw [upd_self]; exact fun _ a => by cases a
  · rw [u _ _ _ (by decide : 13 ≠ 15)]
    exact fun _ => ⟨w, h.below h15, h.e13 h13 h15, rfl⟩
end
theorem src_head {W : World} {d : LegD} {p : LegP} {k : Nat} (h : Holds W p.aH d.nH d.t d.c d.s) (hk : k ≤ d.nH) : Src W (if p.cH = 0 then p.aH else p.aH.map (·.add (0 * 3))) k 3 (flatN (ndsOf d.t d.c d.s k)) := by
  refine ⟨by rw [flatN_len, ndsOf_len], fun h0 => ?_⟩
  obtain ⟨b, off, e, hb, hc⟩ := h.cells (by omega)
  refine ⟨⟨b, off, none⟩, ?_, newsH_cells fun i hi => hc i (by omega)⟩
  rw [e]
  split <;> simp [Addr.add]
theorem src_tail {W : World} {d : LegD} {p : LegP} {k : Nat} (h : Holds W p.aH d.nH d.t d.c d.s) (hk : k ≤ d.nH) (hc : d.nH ≤ p.cH) : Src W (if p.cH = k then p.aH else p.aH.map (·.add (k * 3))) (d.nH - k) 3 (flatN (ndsOf (fun i => d.t (k + i)) (fun i => d.c (k + i)) (fun i => d.s (k + i)) (d.nH - k))) := by
  refine ⟨by rw [flatN_len, ndsOf_len], fun h0 => ?_⟩
  obtain ⟨b, off, e, hb, hcc⟩ := h.cells (by omega)
  refine ⟨⟨b, off + k * 3, none⟩, ?_, newsH_cells fun i hi => ?_⟩
  · rw [e, if_neg (by omega)]
    by_cases hk0 : k = 0
    · simp [Addr.add, hk0]
    · have : ¬ k * 3 = 0 := by omega
      simp [Addr.add, hk0, this]
  · have := hcc (k + i) (by omega)
    rwa [show off + (k + i) * 3 = off + k * 3 + i * 3 from by omega] at this
theorem src_row {W : World} {g : Nat} {t c s : Int} (h : W.heap[g]? = some (.cells #[.int .i64 t, .int .i64 c, .int .i64 s] 58 (0, 0))) : Src W (some ⟨g, 0, none⟩) 1 3 [.int .i64 t, .int .i64 c, .int .i64 s] := by
  refine ⟨rfl, fun _ => ⟨_, rfl, fun j u hu => ?_⟩⟩
  obtain ⟨h0, h1, h2⟩ := row3 h
  match j, hu with
  | 0, hu => simp at hu; subst hu; exact h0
  | 1, hu => simp at hu; subst hu; exact h1
  | 2, hu => simp at hu; subst hu; exact h2
  | j + 3, hu => simp at hu
/-- What is held, and one more in its place. -/
def putN (d : LegD) (k : Nat) (t c s : Int) : List Nd := ndsOf d.t d.c d.s k ++ [⟨0, t, c, s⟩] ++ ndsOf (fun i => d.t (k + i)) (fun i => d.c (k + i)) (fun i => d.s (k + i)) (d.nH - k)
theorem putN_len {d : LegD} {k : Nat} {t c s : Int} (hk : k ≤ d.nH) : (putN d k t c s).length = d.nH + 1 := by simp only [putN, List.length_append, ndsOf_len, List.length_singleton]; omega
theorem putN_own {w : World} {N k : Nat} {v : Value} {d : LegD} {t c s : Int} (hk : k ≤ d.nH)
    (h : w.ownsRow N 58 3 v (k + 1 + (d.nH - k)) (flatN (ndsOf d.t d.c d.s k) ++ [.int .i64 t, .int .i64 c, .int .i64 s] ++ flatN (ndsOf (fun i => d.t (k + i)) (fun i => d.c (k + i)) (fun i => d.s (k + i)) (d.nH - k)))) :
    w.ownsRow N 58 3 v (putN d k t c s).length (flatN (putN d k t c s)) := by
  rw [putN_len hk, show d.nH + 1 = k + 1 + (d.nH - k) from by omega]
  unfold putN
  rw [flatN_app, flatN_app]
  exact h
theorem putN_same {d : LegD} {k : Nat} {t c s : Int} (hk : k ≤ d.nH) : LegSame (withH d (putN d k t c s)) (putD d k t c s) := by
  have hlen := putN_len (t := t) (c := c) (s := s) hk
  refine ⟨rfl, rfl, rfl, rfl, rfl, rfl, rfl, rfl, rfl, hlen, fun _ _ => rfl, fun _ _ => rfl, fun _ _ => rfl, fun i hi => ?_⟩
  have hi' : i < (putN d k t c s).length := hi
  have e := List.getElem?_eq_getElem hi'
  have ev : tN (putN d k t c s) i = (putN d k t c s)[i].t ∧ cN (putN d k t c s) i = (putN d k t c s)[i].c ∧ sN (putN d k t c s) i = (putN d k t c s)[i].s := by
    simp [tN, cN, sN, List.getD_eq_getElem?_getD, List.getElem?_map, e]
  show tN _ i = putF d.t k t i ∧ cN _ i = putF d.c k c i ∧ sN _ i = putF d.s k s i
  rw [ev.1, ev.2.1, ev.2.2]
  have e2 : (putN d k t c s)[i]? = some ⟨0, putF d.t k t i, putF d.c k c i, putF d.s k s i⟩ := by
    unfold putN putF
    rw [hlen] at hi'
    rcases Nat.lt_trichotomy i k with h | h | h
    · rw [List.append_assoc, List.getElem?_append_left (by rw [ndsOf_len]; exact h), if_pos h, if_pos h, if_pos h]; simp [ndsOf, h]
    · subst h
      rw [if_neg (by omega), if_pos rfl, if_neg (by omega), if_pos rfl, if_neg (by omega), if_pos rfl, List.append_assoc, List.getElem?_append_right (by rw [ndsOf_len]; omega), ndsOf_len]
      simp
    · rw [if_neg (by omega), if_neg (by omega), if_neg (by omega), if_neg (by omega), if_neg (by omega), if_neg (by omega), List.getElem?_append_right (by simp [ndsOf_len]; omega)]
      have h2 : i - (k + 1) < d.nH - k := by omega
      have h3 : k + (i - (k + 1)) = i - 1 := by omega
      simp [ndsOf, ndsOf_len, h2, h3]
  have e3 := Option.some.inj (e.symm.trans e2)
  rw [e3]
  exact ⟨rfl, rfl, rfl⟩
end Go.Proofs.YtdaccpffdnbkiaaGreatDoor
