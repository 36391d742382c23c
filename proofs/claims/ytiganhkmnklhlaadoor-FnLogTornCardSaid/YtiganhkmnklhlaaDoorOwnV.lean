/-
  A slice of the call's own, whatever its spare place: what it holds, and that it can be appended to and written.
-/
import Derived.Test.YtiganhkmnklhlaaDoorBase
import Derived.ArgAppend
import Derived.Deep.AppendLies
import Derived.Laws.IdiomCopy
import Derived.Lib.ConvBytes
import Derived.Lib.AtoiErrMem
import Derived.Laws.BytesArg
namespace Go.Proofs.YtiganhkmnklhlaaDoor
open Go.RowKit
set_option linter.unusedVariables false
set_option linter.unusedSimpArgs false

def OwnV (B : Nat) (w : World) (v : Value) (xs : List Value) : Prop :=
  (v = .slice none 0 0 ∧ xs = []) ∨ ∃ g o cap, v = .slice (some ⟨g, o, none⟩) xs.length cap ∧ B ≤ g ∧ g < w.heap.size ∧ xs.length ≤ cap ∧ (∀ j, j < xs.length → w.cell? ⟨g, o + j, none⟩ = xs[j]?) ∧ ∀ j, j < cap → (w.cell? ⟨g, o + j, none⟩).isSome = true ∧ w.frozen? ⟨g, o + j, none⟩ = false
theorem OwnV.slice {B : Nat} {w : World} {v : Value} {xs : List Value} (h : OwnV B w v xs) : ∃ a c, v = .slice a xs.length c := by
  rcases h with ⟨rfl, rfl⟩ | ⟨g, o, cap, rfl, -⟩
  · exact ⟨none, 0, rfl⟩
  · exact ⟨_, cap, rfl⟩
theorem OwnV.grown {B : Nat} {w w' : World} {v : Value} {xs : List Value} (h : OwnV B w v xs) (hb : Below w.heap.size w w') : OwnV B w' v xs := by
  rcases h with h | ⟨g, o, cap, h1, h2, h3, h4, h5, h6⟩
  · exact Or.inl h
  · refine Or.inr ⟨g, o, cap, h1, h2, Nat.lt_of_lt_of_le h3 hb.size, h4, fun j hj => (hb.cell (p := ⟨g, o + j, none⟩) h3).trans (h5 j hj), fun j hj => ?_⟩
    have := h6 j hj
    exact ⟨by rw [hb.cell (p := ⟨g, o + j, none⟩) h3]; exact this.1, (World.frozen?_of_block (a := ⟨g, o + j, none⟩) (hb.block g h3)).trans this.2⟩
theorem OwnV.of_row {B e n : Nat} {w : World} {v : Value} {xs : List Value} (h : w.ownsRow B e 1 v n xs) (h0 : 0 < n) : OwnV B w v xs := by
  have hn : xs.length = n := by have := h.1; omega
  rcases id h with ⟨-, ⟨-, h0'⟩ | ⟨g, cap, cur, rfl, hB, hg, hle, -, hsz, -⟩⟩
  · omega
  · refine Or.inr ⟨g, 0, cap, by rw [hn], hB, (Array.getElem?_eq_some_iff.1 hg).1, by omega, fun j hj => by rw [Nat.zero_add]; exact h.cellAt j (by omega), fun j hj => ⟨?_, by rw [Nat.zero_add]; exact h.frozenAt j⟩⟩
    have : j < cur.size := by omega
    simp [World.cell?, hg, this]
theorem OwnV.made {B e : Nat} (w : World) (hB : B ≤ w.heap.size) : OwnV B (w.alloc (.cells #[] e)) (.slice (some ⟨w.heap.size, 0, none⟩) 0 0) [] :=
  Or.inr ⟨w.heap.size, 0, 0, rfl, hB, by simp, Nat.le_refl _, fun j hj => by simp at hj, fun j hj => by omega⟩

section
variable {P : Program}
theorem run_append_ownV (t ty e : TypeId) (i : TypeInfo) (z : Value) (bytes : Nat) (ht : P.underlying t = some (.slice e)) (hi : P.info? e = some i) (hz : i.zero = some z) (hsize : i.size = 1) (hby : i.bytes = bytes) (hzs : z.cells.size = 1)
    {B : Nat} {w : World} {v : Value} {xs : List Value} (h : OwnV B w v xs) (hB : B ≤ w.heap.size)
    (ad : Addr) (m c : Nat) (news : List Value) (hl : news.length = m) (hnews : ∀ j u, news[j]? = some u → w.cell? (ad.add j) = some u) (h1 : ∀ u ∈ news, u.oneCell' = true)
    (hm : 0 < m) (h63 : xs.length + m ≤ maxLen) (hbytes : (xs.length + m) * bytes ≤ 140737488355328) :
    ∃ v' w', (Builtin.append_ #[t, t] ty #[v, .slice (some ad) m c]).run P w = .ok v' w' ∧ OwnV B w' v' (xs ++ news) ∧ Below B w w' := by
  rcases h with ⟨rfl, rfl⟩ | ⟨g, o, cap, rfl, hg, hlt, hle, hc, hs⟩
  · obtain ⟨v', w', hr, ho, hgr, -⟩ := run_append_own (P := P) w B t ty e i z 1 bytes ht hi hz hsize hby hzs (by omega) (.slice none 0 0) 0 [] (World.ownsRow_nil w B e 1) ad m c news (by omega) hnews h1 (by simpa using h63) (by simpa using hbytes) hB
    exact ⟨v', w', hr, OwnV.of_row ho (by omega), (Below.refl _ _).grown hgr hB (fun k e => by cases e)⟩
  · by_cases hroom : xs.length + m ≤ cap
    · have hrun := run_append_room_cells (P := P) w t ty e i ht hi g o xs.length cap ad m c news (by rw [hsize]; omega) hnews h1 hroom
        (fun j hj => by rw [hsize, Nat.mul_one, Nat.add_assoc]; exact (hs (xs.length + j) (by omega)).1) (fun j hj => by rw [hsize, Nat.mul_one, Nat.add_assoc]; exact (hs (xs.length + j) (by omega)).2)
      rw [hsize, Nat.mul_one] at hrun
      have hin := World.cell?_setCells_in g news (o + xs.length) w (fun j hj => by rw [Nat.add_assoc]; exact (hs (xs.length + j) (by omega)).1)
      have hsz : (w.setCells g (o + xs.length) news).heap.size = w.heap.size := by
        have : ∀ (l : List Value) (k : Nat) (w : World), (w.setCells g k l).heap.size = w.heap.size := by
          intro l
          induction l with
          | nil => intro k w; rfl
          | cons a r ih => intro k w; rw [World.setCells, ih]; simp [World.setCell]
        exact this _ _ _
      have hbl : ∀ (l : List Value) (k : Nat) (w0 w : World), Below B w0 w → Below B w0 (w.setCells g k l) := by
        intro l
        induction l with
        | nil => intro k w0 w h; exact h
        | cons a r ih => intro k w0 w h; rw [World.setCells]; exact ih _ _ _ (h.setCell (p := ⟨g, k, none⟩) hg _)
      refine ⟨_, _, hrun, Or.inr ⟨g, o, cap, by rw [List.length_append, hl], hg, by rw [hsz]; exact hlt, by rw [List.length_append, hl]; exact hroom, fun j hj => ?_, fun j hj => ?_⟩, hbl _ _ _ _ (Below.refl _ _)⟩
      · rw [List.length_append] at hj
        by_cases hjx : j < xs.length
        · rw [World.cell?_setCells_out g _ _ _ _ (fun _ _ => Or.inl (by show o + j < o + xs.length; omega)), List.getElem?_append_left hjx]
          exact hc j hjx
        · have := hin (j - xs.length) (by omega)
          rw [show o + xs.length + (j - xs.length) = o + j from by omega] at this
          rw [this, List.getElem?_append_right (by omega), List.getElem?_eq_getElem (by omega)]
      · rw [World.frozen?_setCells]
        refine ⟨?_, (hs j hj).2⟩
        by_cases hjx : xs.length ≤ j ∧ j < xs.length + m
        · have := hin (j - xs.length) (by omega)
          rw [show o + xs.length + (j - xs.length) = o + j from by omega] at this
          rw [this]; rfl
        · rw [World.cell?_setCells_out g _ _ _ _ (fun _ _ => by show o + j < o + xs.length ∨ o + xs.length + news.length ≤ o + j; omega)]
          exact (hs j hj).1
    · obtain ⟨v', w', hr, ho, hgr⟩ := run_append_arg_grows (P := P) w t ty e i z 1 bytes ht hi hz hsize hby hzs (by omega) ⟨g, o, none⟩ xs.length cap xs (by omega) (fun j u hu => by
          have hj : j < xs.length := by
            rcases Nat.lt_or_ge j xs.length with h | h
            · exact h
            · rw [List.getElem?_eq_none h] at hu; cases hu
          have hadd : (⟨g, o, none⟩ : Addr).add j = ⟨g, o + j, none⟩ := by unfold Addr.add; split <;> simp_all
          rw [hadd, hc j hj, hu]) ad m c news (by omega) hnews (by omega) h63 hbytes
      have hbe : Below B w w' := (Below.refl _ _).grown hgr hB (fun k e => by cases e)
      have ho' := OwnV.of_row ho (by omega)
      refine ⟨v', w', hr, ?_, hbe⟩
      rcases ho' with h | ⟨g', o', cap', e1, e2, e3⟩
      · exact Or.inl h
      · exact Or.inr ⟨g', o', cap', e1, Nat.le_trans hB e2, e3⟩

theorem wp_append_ownV {o : Oper} {a : Act} {K : Act → World → Prop} {Q : Exit → Act → World → Prop} (s x : Operand) (t : TypeId)
    (ho : o.op = .call { callee := .builtin .append, args := #[s, x], argTypes := #[t, t] })
    (e : TypeId) (i : TypeInfo) (z : Value) (bytes : Nat) (ht : P.underlying t = some (.slice e)) (hi : P.info? e = some i) (hz : i.zero = some z) (hsize : i.size = 1) (hby : i.bytes = bytes) (hzs : z.cells.size = 1)
    {B : Nat} {w : World} {v : Value} {xs : List Value} (hs : a.eval s = v) (h : OwnV B w v xs) (hB : B ≤ w.heap.size)
    (ad : Addr) (m c : Nat) (news : List Value) (hx : a.eval x = .slice (some ad) m c) (hl : news.length = m) (hnews : ∀ j u, news[j]? = some u → w.cell? (ad.add j) = some u) (h1 : ∀ u ∈ news, u.oneCell' = true)
    (hm : 0 < m) (h63 : xs.length + m ≤ maxLen) (hbytes : (xs.length + m) * bytes ≤ 140737488355328) (n' : Nat) (hn : xs.length + m = n')
    (hk : ∀ a' c' w', OwnV B w' (.slice a' n' c') (xs ++ news) → Below B w w' → K (a.put o.dst (.slice a' n' c')) w') : o.wp P a w K Q := by
  obtain ⟨v', w', hr, h2, h3⟩ := run_append_ownV (P := P) t o.type e i z bytes ht hi hz hsize hby hzs h hB ad m c news hl hnews h1 hm h63 hbytes
  unfold Oper.wp execOp
  simp only [ho, resolve, invoke, builtin, Sem.run_bind, Sem.run_pure, Result.andThen_ok, List.map_toArray, List.map_cons, List.map_nil, hs, hx, hr]
  obtain ⟨a', c', rfl⟩ := h2.slice
  rw [List.length_append, hl, hn] at h2 ⊢
  exact hk a' c' w' h2 h3
theorem wpList_append_ownV {ops : Array Oper} {rest : List Oper} {o : Oper} {a : Act} {Q : Exit → Act → World → Prop} (hgd : o.guard = none) (s x : Operand) (t : TypeId)
    (ho : o.op = .call { callee := .builtin .append, args := #[s, x], argTypes := #[t, t] })
    (e : TypeId) (i : TypeInfo) (z : Value) (bytes : Nat) (ht : P.underlying t = some (.slice e)) (hi : P.info? e = some i) (hz : i.zero = some z) (hsize : i.size = 1) (hby : i.bytes = bytes) (hzs : z.cells.size = 1)
    {B : Nat} {w : World} {v : Value} {xs : List Value} (hs : a.eval s = v) (h : OwnV B w v xs) (hB : B ≤ w.heap.size)
    (ad : Addr) (m c : Nat) (news : List Value) (hx : a.eval x = .slice (some ad) m c) (hl : news.length = m) (hnews : ∀ j u, news[j]? = some u → w.cell? (ad.add j) = some u) (h1 : ∀ u ∈ news, u.oneCell' = true)
    (hm : 0 < m) (h63 : xs.length + m ≤ maxLen) (hbytes : (xs.length + m) * bytes ≤ 140737488355328) (n' : Nat) (hn : xs.length + m = n')
    (hk : ∀ a' c' w', OwnV B w' (.slice a' n' c') (xs ++ news) → Below B w w' → wpList P ops Q rest (a.put o.dst (.slice a' n' c')) w') : wpList P ops Q (o :: rest) a w :=
  wpList_plain hgd fun _ hK => wp_append_ownV s x t ho e i z bytes ht hi hz hsize hby hzs hs h hB ad m c news hx hl hnews h1 hm h63 hbytes n' hn fun a' c' w' h2 h3 => hK _ _ (hk a' c' w' h2 h3)
theorem step_append_ownV {ops : Array Oper} {o : Oper} {a : Act} {K : Act → World → Prop} {Q : Exit → Act → World → Prop} {E : Prop} (hgd : o.guard = none) (s x : Operand) (t : TypeId)
    (ho : o.op = .call { callee := .builtin .append, args := #[s, x], argTypes := #[t, t] })
    (e : TypeId) (i : TypeInfo) (z : Value) (bytes : Nat) (ht : P.underlying t = some (.slice e)) (hi : P.info? e = some i) (hz : i.zero = some z) (hsize : i.size = 1) (hby : i.bytes = bytes) (hzs : z.cells.size = 1)
    {B : Nat} {w : World} {v : Value} {xs : List Value} (hs : a.eval s = v) (h : OwnV B w v xs) (hB : B ≤ w.heap.size)
    (ad : Addr) (m c : Nat) (news : List Value) (hx : a.eval x = .slice (some ad) m c) (hl : news.length = m) (hnews : ∀ j u, news[j]? = some u → w.cell? (ad.add j) = some u) (h1 : ∀ u ∈ news, u.oneCell' = true)
    (hm : 0 < m) (h63 : xs.length + m ≤ maxLen) (hbytes : (xs.length + m) * bytes ≤ 140737488355328) (n' : Nat) (hn : xs.length + m = n')
    (hk : ∀ a' c' w', OwnV B w' (.slice a' n' c') (xs ++ news) → Below B w w' → K (a.put o.dst (.slice a' n' c')) w') :
    if Region.wanted o (yielded ops a.tmps) = true then Oper.wp P o a w K Q else E := by
  have hw : Region.wanted o (yielded ops a.tmps) = true := by simp [Region.wanted, hgd]
  rw [if_pos hw]
  exact wp_append_ownV s x t ho e i z bytes ht hi hz hsize hby hzs hs h hB ad m c news hx hl hnews h1 hm h63 hbytes n' hn hk
end

def u8s (l : List UInt8) : List Value := l.map fun b => Value.int .u8 (b.toNat : Int)
theorem u8s_app (a b : List UInt8) : u8s (a ++ b) = u8s a ++ u8s b := by simp [u8s]
theorem u8s_len (a : List UInt8) : (u8s a).length = a.length := by simp [u8s]
/-- The bytes of a text, converted: a slice of the call's own. -/
theorem own_bytes (w : World) (s : ByteArray) : OwnV w.heap.size (Lib.bytesWorld w 5 s) (.slice (some ⟨w.heap.size, 0, none⟩) s.size (grownCap w s.size 0 5)) (u8s s.data.toList) := by
  have hle : s.size ≤ grownCap w s.size 0 5 := grownCap_ge _ _ _ _
  have hcs : (Lib.bytesCells w 5 s).size = grownCap w s.size 0 5 := by
    have : s.data.size = s.size := rfl
    simp [Lib.bytesCells, this]; omega
  have hl : (u8s s.data.toList).length = s.size := by simp [u8s]
  refine Or.inr ⟨w.heap.size, 0, _, by rw [hl], Nat.le_refl _, by rw [Lib.bytesWorld_size]; omega, by rw [hl]; exact hle, fun j hj => ?_, fun j hj => ⟨?_, ?_⟩⟩
  · rw [hl] at hj
    rw [Nat.zero_add, Lib.bytesWorld_cell w _ s j hj]
    simp [u8s, hj]
  · rw [Nat.zero_add]
    have : j < (Lib.bytesCells w 5 s).size := by omega
    simp [World.cell?, Lib.bytesWorld_at_new, this]
  · simp [World.frozen?, Lib.bytesWorld_at_new, hcs]; omega
theorem convB {B : Nat} {w : World} {v : Value} {l : List UInt8} (h : OwnV B w v (u8s l)) (h0 : 0 < l.length) : (convert 22 9 v).run Tryd.prog w = .ok (.string ⟨l.toArray⟩) w := by
  rcases h with ⟨-, h⟩ | ⟨g, o, c, rfl, -, -, -, hc, -⟩
  · have h2 : l.length = 0 := by
      have := congrArg List.length h
      rw [u8s_len] at this; exact this
    omega
  · rw [u8s_len] at hc ⊢
    rw [run_convert_bytes_arg w 22 5 Tryd.underlying22 Tryd.underlying5 g o l.length c (l.map fun b => (b.toNat : Int)) (by simp) (fun i hi => ?_) 9 Tryd.underlying9]
    · have : strOfNums (l.map fun b => (b.toNat : Int)) = ⟨l.toArray⟩ := by
        apply ByteArray.ext
        apply Array.ext'
        simp [strOfNums, Function.comp_def]
      rw [this]
    · rw [hc i hi]
      simp [u8s, hi]
theorem info_u8 : (Tryd.prog.info? 5).map (fun i => (i.zero, i.size, i.bytes)) = some (some (.int .u8 0), 1, 1) := by kernel_rfl
end Go.Proofs.YtiganhkmnklhlaaDoor
