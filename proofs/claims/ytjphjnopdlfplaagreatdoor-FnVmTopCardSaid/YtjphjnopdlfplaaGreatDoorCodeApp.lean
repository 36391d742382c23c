/-
  Onto a row of one's own another one, whether there is anything in it or not; marks behind marks.
-/
import Derived.Test.YtjphjnopdlfplaaGreatDoorJ21
import Derived.Test.YtjphjnopdlfplaaGreatDoorJ25
namespace Go.Proofs.YtjphjnopdlfplaaGreatDoor
open Go.RowKit
set_option linter.unusedVariables false
set_option linter.unusedSimpArgs false

theorem run_append_sr20 {P : Program} (w : World) (base : Nat) (t ty e : TypeId) (i : TypeInfo) (size : Nat) (ht : P.underlying t = some (.slice e)) (hi : P.info? e = some i)
    (v : Value) (n : Nat) (xs : List Value) (hown : w.ownsRow base e size v n xs) (c : Nat) : (Builtin.append_ #[t, t] ty #[v, .slice none 0 c]).run P w = .ok v w := by
  have hx := hown.2
  rcases hx with ⟨h1, -⟩ | ⟨g, cap, cur, h1, -, -, h2, -⟩
  · subst h1; simp [Builtin.append_, run_underlying ht, sizeOf, typeInfo, hi, Builtin.lenOf, Builtin.firstCells]
  · subst h1; simp [Builtin.append_, run_underlying ht, sizeOf, typeInfo, hi, Builtin.lenOf, Builtin.firstCells, h2, storeCells]
theorem wpList_append_sr2 {P : Program} (w : World) {ops : Array Oper} {rest : List Oper} {o : Oper} {a : Act} {Q : Exit → Act → World → Prop} (hgd : o.guard = none) (s x : Operand) (t : TypeId)
    (ho : o.op = .call { callee := .builtin .append, args := #[s, x], argTypes := #[t, t] })
    (base : Nat) (e : TypeId) (i : TypeInfo) (z : Value) (size bytes : Nat) (ht : P.underlying t = some (.slice e)) (hi : P.info? e = some i) (hz : i.zero = some z)
    (hsize : i.size = size) (hby : i.bytes = bytes) (hzs : z.cells.size = size) (hsz : 0 < size)
    (v : Value) (n : Nat) (xs : List Value) (hs : a.eval s = v) (hown : w.ownsRow base e size v n xs)
    (A : Option Addr) (m c : Nat) (news : List Value) (hx : a.eval x = .slice A m c) (hA : A = none → m = 0) (hl : news.length = m * size) (hnews : ∀ ad, A = some ad → ∀ j u, news[j]? = some u → w.cell? (ad.add j) = some u) (h1 : ∀ u ∈ news, u.oneCell' = true)
    (h63 : n + m ≤ maxLen) (hbytes : (n + m) * bytes ≤ 140737488355328) (hbase : base ≤ w.heap.size)
    (h : ∀ a' c' w', w'.ownsRow base e size (.slice a' (n + m) c') (n + m) (xs ++ news) → w.grownBy w' v.ownBlock → wpList P ops Q rest (a.put o.dst (.slice a' (n + m) c')) w') : wpList P ops Q (o :: rest) a w := by
  refine wpList_plain hgd fun K hK => ?_
  have key : ∃ a' c' w', (Builtin.append_ #[t, t] o.type #[v, .slice A m c]).run P w = .ok (.slice a' (n + m) c') w' ∧ w'.ownsRow base e size (.slice a' (n + m) c') (n + m) (xs ++ news) ∧ w.grownBy w' v.ownBlock := by
    have form : ∀ (v' : Value) (w' : World), w'.ownsRow base e size v' (n + m) (xs ++ news) → ∃ a' c', v' = .slice a' (n + m) c' := by
      intro v' w' hv
      rcases hv.2 with ⟨h1, h2⟩ | ⟨g, cap, cur, h1, -⟩
      · exact ⟨none, 0, by rw [h1, h2]⟩
      · exact ⟨_, _, h1⟩
    cases A with
    | none =>
      have hm := hA rfl
      subst hm
      have hn : news = [] := List.eq_nil_of_length_eq_zero (by omega)
      subst hn
      have hv : w.ownsRow base e size v (n + 0) (xs ++ []) := by simpa using hown
      obtain ⟨a', c', rfl⟩ := form v w hv
      exact ⟨a', c', w, run_append_sr20 w base t o.type e i size ht hi _ n xs hown c, hv, World.grownBy.refl w _⟩
    | some ad =>
      obtain ⟨v', w', hrun, h2, h3, -, -⟩ := run_append_own_at (P := P) w base t o.type e i z size bytes ht hi hz hsize hby hzs hsz v n xs hown ad m c news hl (hnews ad rfl) h1 h63 hbytes hbase
      obtain ⟨a', c', rfl⟩ := form v' w' h2
      exact ⟨a', c', w', hrun, h2, h3⟩
  obtain ⟨a', c', w', hr, h2, h3⟩ := key
  unfold Oper.wp execOp
  simp only [ho, resolve, invoke, builtin, Sem.run_bind, Sem.run_pure, Result.andThen_ok, List.map_toArray, List.map_cons, List.map_nil, hs, hx, hr]
  exact hK _ _ (h a' c' w' h2 h3)
/-- Marks that come in, as cells. -/
theorem marksN_news {N : Nat → Prop} {w : World} {a : Option Addr} {ms : List (Int × Int)} (h : MarksN N w a ms.length ms) : (a = none → ms.length = 0) ∧ ∀ ad, a = some ad → ∀ j u, (rowsM ms)[j]? = some u → w.cell? (ad.add j) = some u := by
  rcases h.2 with h0 | ⟨b, off, rfl, -, -, hc⟩
  · refine ⟨fun _ => h0, fun ad _ j u hj => ?_⟩
    have : ms = [] := List.eq_nil_of_length_eq_zero h0
    subst this
    simp [rowsM] at hj
  · refine ⟨(fun e => by cases e), fun ad e j u hj => ?_⟩
    injection e with e
    subst e
    have hjl := (List.getElem?_eq_some_iff.1 hj).1
    rw [rowsM_len] at hjl
    have hi : j / 2 < ms.length := by omega
    have eg : ms.getD (j / 2) (0, 0) = ms[j / 2] := by simp [hi]
    obtain ⟨c0, c1⟩ := hc (j / 2) hi
    rw [eg] at c0 c1
    rw [addA]
    have hm : j % 2 = 0 ∨ j % 2 = 1 := by omega
    rcases hm with hm | hm
    · have e2 : j = j / 2 * 2 + 0 := by omega
      have r := rowsM_get ms (j / 2) 0 hi (by omega)
      rw [← e2, hj] at r
      rw [show off + j = off + j / 2 * 2 by omega, c0]
      exact r.symm
    · have e2 : j = j / 2 * 2 + 1 := by omega
      have r := rowsM_get ms (j / 2) 1 hi (by omega)
      rw [← e2, hj] at r
      rw [show off + j = off + j / 2 * 2 + 1 by omega, c1]
      exact r.symm
def OtherF (fs fs' : List FI) : Prop := ∀ f ∈ fs, ∀ f' ∈ fs', ∀ b, (MkV f).ownBlock = some b → (MkV f').ownBlock ≠ some b
def RowNe (v v' : Value) : Prop := ∀ b, v.ownBlock = some b → v'.ownBlock ≠ some b
theorem CodeF.far {B : Nat} {w w' : World} {v v' : Value} {ds : List Pl} {fs : List FI} {n' : Nat} {xs' : List Value} (h : CodeF B w v ds fs) (hr : w.ownsRow B tI 4 v' n' xs') (hg : w.grownBy w' v'.ownBlock) (hne : RowNe v' v) : CodeF B w' v ds fs := by
  refine ⟨h.1.kept hg ?_, allO_imp (fun _ _ k => k.kept hg (fun b e => (owns_typed hr e).2)) h.2.1, h.2.2⟩
  cases hb : v.ownBlock with
  | none => exact Or.inl rfl
  | some b => exact Or.inr fun e => hne b e.symm hb
theorem CodeF.app2 {B : Nat} {w w' : World} {v : Value} {ds ds' : List Pl} {fs fs' : List FI} {g cap : Nat} (h : CodeF B w v ds fs) (h' : AllO B w ds' fs') (ha : ApartF fs') (ho : OtherF fs fs')
    (hown : w'.ownsRow B tI 4 (.slice (some ⟨g, 0, none⟩) (ds.length + ds'.length) cap) (ds.length + ds'.length) (rowsI fs ++ rowsI fs')) (hgr : w.grownBy w' v.ownBlock) :
    CodeF B w' (.slice (some ⟨g, 0, none⟩) (ds.length + ds'.length) cap) (ds ++ ds') (fs ++ fs') := by
  have hrow : ∀ b, v.ownBlock = some b → ∃ cur, w.heap[b]? = some (.cells cur tI (0, 0)) := fun b e => (owns_typed h.1 e).2
  refine ⟨?_, allO_app (allO_imp (fun _ _ k => k.kept hgr hrow) h.2.1) (allO_imp (fun _ _ k => k.kept hgr hrow) h'), List.pairwise_append.2 ⟨h.2.2, ha, fun f hf f' hf' b hb => ho f hf f' hf' b hb⟩⟩
  rw [List.length_append]; unfold rowsI at hown ⊢; rw [List.flatMap_append]; exact hown
theorem rowNe_app {B w} {v v' : Value} {n' : Nat} {xs' : List Value} {g len cap H : Nat} (hv' : World.ownsRow w B tI 4 v' n' xs') (hne : RowNe v v') (hat : v.ownBlock = some g ∨ g = H) (hH : w.heap.size ≤ H) : RowNe (.slice (some ⟨g, 0, none⟩) len cap) v' := by
  intro b hb hb'
  simp [Value.ownBlock] at hb
  subst hb
  rcases hat with h | h
  · exact hne g h hb'
  · have := (hv'.lt g hb').2; omega
theorem otherF_app {fs gs fs' : List FI} (h : OtherF fs fs') (k : OtherF gs fs') : OtherF (fs ++ gs) fs' := fun f hf => (List.mem_append.1 hf).elim (h f) (k f)
/-- A place without marks. -/
theorem otherF_bare {o n : Int} {s : ByteArray} {fs : List FI} : OtherF [⟨o, n, s, none, 0, 0⟩] fs := by
  intro f hf f' _ b hb
  simp at hf
  subst hf
  simp [MkV, Value.ownBlock] at hb
theorem otherF_bare' {o n : Int} {s : ByteArray} {fs : List FI} : OtherF fs [⟨o, n, s, none, 0, 0⟩] := by
  intro f _ f' hf' b hb hb'
  simp at hf'
  subst hf'
  simp [MkV, Value.ownBlock] at hb'
theorem plO_bare {B : Nat} {w : World} (o n : Int) (s : ByteArray) : PlO B w ⟨o, n, s, []⟩ ⟨o, n, s, none, 0, 0⟩ := ⟨rfl, rfl, rfl, rfl, World.ownsRow_nil _ _ _ _⟩
theorem otherF_low {B C : Nat} {w w' : World} {v v' : Value} {ds ds' : List Pl} {fs fs' : List FI} (h : CodeF B w v ds fs) (h' : CodeF C w' v' ds' fs') (hC : w.heap.size ≤ C) : OtherF fs fs' := by
  intro f hf f' hf' b hb hb'
  have h1 := (codeF_lt h f hf b hb).2
  have h2 := (codeF_lt h' f' hf' b hb').1
  omega
theorem rowNe_low {B C : Nat} {w w' : World} {v v' : Value} {ds ds' : List Pl} {fs fs' : List FI} (h : CodeF B w v ds fs) (h' : CodeF C w' v' ds' fs') (hC : w.heap.size ≤ C) : RowNe v v' := by
  intro b hb hb'
  have h1 := (h.1.lt b hb).2
  have h2 := (h'.1.lt b hb').1
  omega
theorem CodeF.mono {B B' : Nat} {w : World} {v : Value} {ds : List Pl} {fs : List FI} (h : CodeF B w v ds fs) (hB : B' ≤ B) : CodeF B' w v ds fs := ⟨owns_mono h.1 hB, allO_imp (fun _ _ k => k.mono hB) h.2.1, h.2.2⟩
def MakeP (t : Tr) (w : World) (e : Ending) (w' : World) : Prop := ∃ (a : Option Addr) (n c : Nat), e = .returned (.slice a n c) ∧ n = (codeT t).length ∧ CodeO w.heap.size w' (.slice a n c) (codeT t) ∧ Below w.heap.size w w'
end Go.Proofs.YtjphjnopdlfplaaGreatDoor
