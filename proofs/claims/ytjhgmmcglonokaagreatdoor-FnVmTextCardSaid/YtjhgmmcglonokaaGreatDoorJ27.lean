/-
  Onto a row of one's own another one, whether there is anything in it or not; marks behind marks.
  A program of one's own is marked, and held against its marks.
  A program of one's own is marked, and held against its marks: the laws' own helpers walked.
  A drawn program in memory: a row of its own, marks shared perhaps; a place is added, one is taken out, one is changed.
-/
import Derived.Test.YtjhgmmcglonokaaGreatDoorJ25
import Derived.Test.YtjhgmmcglonokaaGreatDoorJ26
import Derived.Test.YtjhgmmcglonokaaGreatDoorJ7
import Derived.OwnWalk
import Derived.Deep.RegionWith
import Derived.Lib.QuietBelow
namespace Go.Proofs.YtjhgmmcglonokaaGreatDoor
open Go.RowKit
set_option linter.unusedVariables false
set_option linter.unusedSimpArgs false

theorem run_append_sr20 {P : Program} (w : World) (base : Nat) (t ty e : TypeId) (i : TypeInfo) (size : Nat) (ht : P.underlying t = some (.slice e)) (hi : P.info? e = some i)
    (v : Value) (n : Nat) (xs : List Value) (hown : w.ownsRow base e size v n xs) (c : Nat) : (Builtin.append_ #[t, t] ty #[v, .slice none 0 c]).run P w = .ok v w := by
  have hx := hown.2
  rcases hx with ⟨h1, -⟩ | ⟨g, cap, cur, h1, -, -, h2, -⟩
  · subst h1; simp [Builtin.append_, run_underlying ht, sizeOf, typeInfo, hi, Builtin.lenOf, Builtin.firstCells]
  · subst h1; simp [Builtin.append_, run_underlying ht, sizeOf, typeInfo, hi, Builtin.lenOf, Builtin.firstCells, h2, storeCells]
theorem wpList_append_sr2 {P : Program} (w : World) {ops : Array Oper} {rest : List Oper} {o : Oper} {a : Act} {Q : Exit → Act → World → Prop} (hgd : o.guard = none) (s x : Operand) (t : TypeId)
    (ho : o.op = .call { callee := .builtin .append, args := #[s, x], argTypes := #[t, t] })
    (base : Nat) (e : TypeId) (i : TypeInfo) (z : Value) (size bytes : Nat) (ht : P.underlying t = some (.slice e)) (hi : P.info? e = some i) (hz : i.zero = some z)
    (hsize : i.size = size) (hby : i.bytes = bytes) (hzs : z.cells.size = size) (hsz : 0 < size)
    (v : Value) (n : Nat) (xs : List Value) (hs : a.eval s = v) (hown : w.ownsRow base e size v n xs)
    (A : Option Addr) (m c : Nat) (news : List Value) (hx : a.eval x = .slice A m c) (hA : A = none → m = 0) (hl : news.length = m * size) (hnews : ∀ ad, A = some ad → ∀ j u, news[j]? = some u → w.cell? (ad.add j) = some u) (h1 : ∀ u ∈ news, u.oneCell' = true)
    (h63 : n + m ≤ maxLen) (hbytes : (n + m) * bytes ≤ 140737488355328) (hbase : base ≤ w.heap.size)
    (h : ∀ a' c' w', w'.ownsRow base e size (.slice a' (n + m) c') (n + m) (xs ++ news) → w.grownBy w' v.ownBlock → wpList P ops Q rest (a.put o.dst (.slice a' (n + m) c')) w') : wpList P ops Q (o :: rest) a w := by
  refine wpList_plain hgd fun K hK => ?_
  have key : ∃ a' c' w', (Builtin.append_ #[t, t] o.type #[v, .slice A m c]).run P w = .ok (.slice a' (n + m) c') w' ∧ w'.ownsRow base e size (.slice a' (n + m) c') (n + m) (xs ++ news) ∧ w.grownBy w' v.ownBlock := by
    have form : ∀ (v' : Value) (w' : World), w'.ownsRow base e size v' (n + m) (xs ++ news) → ∃ a' c', v' = .slice a' (n + m) c' := by
      intro v' w' hv
      rcases hv.2 with ⟨h1, h2⟩ | ⟨g, cap, cur, h1, -⟩
      · exact ⟨none, 0, by rw [h1, h2]⟩
      · exact ⟨_, _, h1⟩
    cases A with
    | none =>
      have hm := hA rfl
      subst hm
      have hn : news = [] := List.eq_nil_of_length_eq_zero (by omega)
      subst hn
      have hv : w.ownsRow base e size v (n + 0) (xs ++ []) := by simpa using hown
      obtain ⟨a', c', rfl⟩ := form v w hv
      exact ⟨a', c', w, run_append_sr20 w base t o.type e i size ht hi _ n xs hown c, hv, World.grownBy.refl w _⟩
    | some ad =>
      obtain ⟨v', w', hrun, h2, h3, -, -⟩ := run_append_own_at (P := P) w base t o.type e i z size bytes ht hi hz hsize hby hzs hsz v n xs hown ad m c news hl (hnews ad rfl) h1 h63 hbytes hbase
      obtain ⟨a', c', rfl⟩ := form v' w' h2
      exact ⟨a', c', w', hrun, h2, h3⟩
  obtain ⟨a', c', w', hr, h2, h3⟩ := key
  unfold Oper.wp execOp
  simp only [ho, resolve, invoke, builtin, Sem.run_bind, Sem.run_pure, Result.andThen_ok, List.map_toArray, List.map_cons, List.map_nil, hs, hx, hr]
  exact hK _ _ (h a' c' w' h2 h3)
/-- Marks that come in, as cells. -/
theorem marksN_news {N : Nat → Prop} {w : World} {a : Option Addr} {ms : List (Int × Int)} (h : MarksN N w a ms.length ms) : (a = none → ms.length = 0) ∧ ∀ ad, a = some ad → ∀ j u, (rowsM ms)[j]? = some u → w.cell? (ad.add j) = some u := by
  rcases h.2 with h0 | ⟨b, off, rfl, -, -, hc⟩
  · refine ⟨fun _ => h0, fun ad _ j u hj => ?_⟩
    have : ms = [] := List.eq_nil_of_length_eq_zero h0
    subst this
    simp [rowsM] at hj
  · refine ⟨(fun e => by cases e), fun ad e j u hj => ?_⟩
    injection e with e
    subst e
    have hjl := (List.getElem?_eq_some_iff.1 hj).1
    rw [rowsM_len] at hjl
    have hi : j / 2 < ms.length := by omega
    have eg : ms.getD (j / 2) (0, 0) = ms[j / 2] := by simp [hi]
    obtain ⟨c0, c1⟩ := hc (j / 2) hi
    rw [eg] at c0 c1
    rw [addA]
    have hm : j % 2 = 0 ∨ j % 2 = 1 := by omega
    rcases hm with hm | hm
    · have e2 : j = j / 2 * 2 + 0 := by omega
      have r := rowsM_get ms (j / 2) 0 hi (by omega)
      rw [← e2, hj] at r
      rw [show off + j = off + j / 2 * 2 by omega, c0]
      exact r.symm
    · have e2 : j = j / 2 * 2 + 1 := by omega
      have r := rowsM_get ms (j / 2) 1 hi (by omega)
      rw [← e2, hj] at r
      rw [show off + j = off + j / 2 * 2 + 1 by omega, c1]
      exact r.symm
def OtherF (fs fs' : List FI) : Prop := ∀ f ∈ fs, ∀ f' ∈ fs', ∀ b, (MkV f).ownBlock = some b → (MkV f').ownBlock ≠ some b
def RowNe (v v' : Value) : Prop := ∀ b, v.ownBlock = some b → v'.ownBlock ≠ some b
theorem CodeF.far {B : Nat} {w w' : World} {v v' : Value} {ds : List Pl} {fs : List FI} {n' : Nat} {xs' : List Value} (h : CodeF B w v ds fs) (hr : w.ownsRow B tI 4 v' n' xs') (hg : w.grownBy w' v'.ownBlock) (hne : RowNe v' v) : CodeF B w' v ds fs := by
  refine ⟨h.1.kept hg ?_, allO_imp (fun _ _ k => k.kept hg (fun b e => (owns_typed hr e).2)) h.2.1, h.2.2⟩
  cases hb : v.ownBlock with
  | none => exact Or.inl rfl
  | some b => exact Or.inr fun e => hne b e.symm hb
theorem CodeF.app2 {B : Nat} {w w' : World} {v : Value} {ds ds' : List Pl} {fs fs' : List FI} {g cap : Nat} (h : CodeF B w v ds fs) (h' : AllO B w ds' fs') (ha : ApartF fs') (ho : OtherF fs fs')
    (hown : w'.ownsRow B tI 4 (.slice (some ⟨g, 0, none⟩) (ds.length + ds'.length) cap) (ds.length + ds'.length) (rowsI fs ++ rowsI fs')) (hgr : w.grownBy w' v.ownBlock) :
    CodeF B w' (.slice (some ⟨g, 0, none⟩) (ds.length + ds'.length) cap) (ds ++ ds') (fs ++ fs') := by
  have hrow : ∀ b, v.ownBlock = some b → ∃ cur, w.heap[b]? = some (.cells cur tI (0, 0)) := fun b e => (owns_typed h.1 e).2
  refine ⟨?_, allO_app (allO_imp (fun _ _ k => k.kept hgr hrow) h.2.1) (allO_imp (fun _ _ k => k.kept hgr hrow) h'), List.pairwise_append.2 ⟨h.2.2, ha, fun f hf f' hf' b hb => ho f hf f' hf' b hb⟩⟩
  rw [List.length_append]; unfold rowsI at hown ⊢; rw [List.flatMap_append]; exact hown
theorem rowNe_app {B w} {v v' : Value} {n' : Nat} {xs' : List Value} {g len cap H : Nat} (hv' : World.ownsRow w B tI 4 v' n' xs') (hne : RowNe v v') (hat : v.ownBlock = some g ∨ g = H) (hH : w.heap.size ≤ H) : RowNe (.slice (some ⟨g, 0, none⟩) len cap) v' := by
  intro b hb hb'
  simp [Value.ownBlock] at hb
  subst hb
  rcases hat with h | h
  · exact hne g h hb'
  · have := (hv'.lt g hb').2; omega
theorem otherF_app {fs gs fs' : List FI} (h : OtherF fs fs') (k : OtherF gs fs') : OtherF (fs ++ gs) fs' := fun f hf => (List.mem_append.1 hf).elim (h f) (k f)
/-- A place without marks. -/
theorem otherF_bare {o n : Int} {s : ByteArray} {fs : List FI} : OtherF [⟨o, n, s, none, 0, 0⟩] fs := by
  intro f hf f' _ b hb
  simp at hf
  subst hf
  simp [MkV, Value.ownBlock] at hb
theorem otherF_bare' {o n : Int} {s : ByteArray} {fs : List FI} : OtherF fs [⟨o, n, s, none, 0, 0⟩] := by
  intro f _ f' hf' b hb hb'
  simp at hf'
  subst hf'
  simp [MkV, Value.ownBlock] at hb'
theorem plO_bare {B : Nat} {w : World} (o n : Int) (s : ByteArray) : PlO B w ⟨o, n, s, []⟩ ⟨o, n, s, none, 0, 0⟩ := ⟨rfl, rfl, rfl, rfl, World.ownsRow_nil _ _ _ _⟩
theorem otherF_low {B C : Nat} {w w' : World} {v v' : Value} {ds ds' : List Pl} {fs fs' : List FI} (h : CodeF B w v ds fs) (h' : CodeF C w' v' ds' fs') (hC : w.heap.size ≤ C) : OtherF fs fs' := by
  intro f hf f' hf' b hb hb'
  have h1 := (codeF_lt h f hf b hb).2
  have h2 := (codeF_lt h' f' hf' b hb').1
  omega
theorem rowNe_low {B C : Nat} {w w' : World} {v v' : Value} {ds ds' : List Pl} {fs fs' : List FI} (h : CodeF B w v ds fs) (h' : CodeF C w' v' ds' fs') (hC : w.heap.size ≤ C) : RowNe v v' := by
  intro b hb hb'
  have h1 := (h.1.lt b hb).2
  have h2 := (h'.1.lt b hb').1
  omega
theorem CodeF.mono {B B' : Nat} {w : World} {v : Value} {ds : List Pl} {fs : List FI} (h : CodeF B w v ds fs) (hB : B' ≤ B) : CodeF B' w v ds fs := ⟨owns_mono h.1 hB, allO_imp (fun _ _ k => k.mono hB) h.2.1, h.2.2⟩
def MakeP (t : Tr) (w : World) (e : Ending) (w' : World) : Prop := ∃ (a : Option Addr) (n c : Nat), e = .returned (.slice a n c) ∧ n = (codeT t).length ∧ CodeO w.heap.size w' (.slice a n c) (codeT t) ∧ Below w.heap.size w w'
end Go.Proofs.YtjhgmmcglonokaaGreatDoor

namespace Go.Proofs.YtjhgmmcglonokaaGreatDoor
open Go.RowKit
set_option linter.unusedVariables false
set_option linter.unusedSimpArgs false

def mkMs (k n : Nat) : List (Int × Int) := (List.range n).map fun i => (((k + 2 * i : Nat) : Int), ((k + 2 * i + 1 : Nat) : Int))
theorem mkMs_len (k n : Nat) : (mkMs k n).length = n := by simp [mkMs]
theorem mkMs_succ (k n : Nat) : mkMs k (n + 1) = mkMs k n ++ [(((k + 2 * n : Nat) : Int), ((k + 2 * n + 1 : Nat) : Int))] := by
  unfold mkMs; rw [List.range_succ, List.map_append]; rfl
theorem rowsM_set : ∀ (ms : List (Int × Int)) (i : Nat) (x : Int), i < ms.length → (rowsM ms).set (i * 2) (.int .i64 x) = rowsM (ms.set i (x, (ms.getD i (0, 0)).2)) ∧ (rowsM ms).set (i * 2 + 1) (.int .i64 x) = rowsM (ms.set i ((ms.getD i (0, 0)).1, x))
  | m :: r, 0, x, _ => by simp [rowsM, cells2]
  | m :: r, i + 1, x, h => by
    have ih := rowsM_set r i x (by simpa using h)
    unfold rowsM at ih ⊢
    have e0 : (i + 1) * 2 = i * 2 + 1 + 1 := by omega
    constructor
    · rw [e0]; simp only [List.flatMap_cons, cells2, List.cons_append, List.nil_append, List.set_cons_succ, List.getD_cons_succ]; rw [ih.1]
    · rw [e0]; simp only [List.flatMap_cons, cells2, List.cons_append, List.nil_append, List.set_cons_succ, List.getD_cons_succ]; rw [ih.2]
theorem mk_set (k i : Nat) (ms : List (Int × Int)) (h : i < ms.length) : (((mkMs k i ++ ms.drop i).set i (((k + 2 * i : Nat) : Int), ((mkMs k i ++ ms.drop i).getD i (0, 0)).2))).set i (((((mkMs k i ++ ms.drop i).set i (((k + 2 * i : Nat) : Int), ((mkMs k i ++ ms.drop i).getD i (0, 0)).2)).getD i (0, 0)).1), ((k + 2 * i + 1 : Nat) : Int)) = mkMs k (i + 1) ++ ms.drop (i + 1) := by
  have hl : i < (mkMs k i ++ ms.drop i).length := by rw [List.length_append, mkMs_len, List.length_drop]; omega
  rw [List.set_set]
  have e : ((((mkMs k i ++ ms.drop i).set i (((k + 2 * i : Nat) : Int), ((mkMs k i ++ ms.drop i).getD i (0, 0)).2)).getD i (0, 0)).1) = ((k + 2 * i : Nat) : Int) := by
    rw [List.getD_eq_getElem?_getD, List.getElem?_set_self hl]; rfl
  rw [e, List.set_append_right _ _ (by rw [mkMs_len]; exact Nat.le_refl _), mkMs_len, Nat.sub_self, List.drop_eq_getElem_cons h, List.set_cons_zero, mkMs_succ, List.append_assoc]
  rfl
set_option maxHeartbeats 8000000 in
theorem markMs (B : Nat) (a : Option Addr) (n c : Nat) (ms : List (Int × Int)) (k : Nat) (w : World) (h : w.ownsRow B tK 2 (.slice a n c) n (rowsM ms)) (hn : n = ms.length) (hl : n ≤ 1048576) (hk : k ≤ 100000000) :
    Calls Tryz.prog 39 #[.slice a n c, .int .i64 (k : Int)] w fun e w' => e = .returned (.int .i64 ((k + 2 * n : Nat) : Int)) ∧ w'.ownsRow B tK 2 (.slice a n c) n (rowsM (mkMs k n)) ∧ w.grownBy w' (Value.slice a n c).ownBlock := by
  have H := Lib.hid h
  have HN := Lib.hid hn
  have k00 : (0 : Int) ≤ (k : Int) := by omega
  clear h hn
  rcases Nat.eq_zero_or_pos n with h0 | h0
  · have hms : ms = [] := List.eq_nil_of_length_eq_zero (by rw [← HN.out]; exact h0)
    have HP : Hid (w.ownsRow B tK 2 (.slice a n c) n (rowsM (mkMs k n)) ∧ k + 2 * n = k) := by
      refine ⟨?_, by omega⟩
      have := H.out
      rw [hms] at this
      have e : mkMs k n = [] := by rw [h0]; rfl
      rw [e]; exact this
    have e2 : Hid (((k + 2 * n : Nat) : Int) = (k : Int)) := by refine Lib.hid ?_; omega
    rw [e2.out]
    subst h0
    go_enter Tryz.func39, Tryz.ntmps39
    go_wp2_with fail
    go_loopw [5, 1] (fun vi vk wr => vi = .int .i64 0 ∧ vk = .int .i64 (k : Int) ∧ w = wr) (fun _ _ _ => 0)
    case atStart => exact ⟨rfl, rfl, rfl⟩
    case round =>
      obtain ⟨rfl, rfl, rfl⟩ := hrel
      go_wp2
      go_ret
      exact ⟨rfl, HP.out.1, World.grownBy.refl _ _⟩
  obtain ⟨g, cp, e1, hbg, hglt⟩ := H.out.form h0
  injection e1 with e1 _ e3
  subst e1 e3
  go_enter Tryz.func39, Tryz.ntmps39
  go_wp2_with fail
  go_loopw [5, 1] (fun vi vk wr => ∃ i : Nat, i ≤ n ∧ vi = .int .i64 i ∧ vk = .int .i64 ((k + 2 * i : Nat) : Int) ∧ wr.ownsRow B tK 2 (.slice (some ⟨g, 0, none⟩) n c) n (rowsM (mkMs k i ++ ms.drop i)) ∧ w.grownBy wr (some g)) (fun vi _ _ => n - (intOf vi).toNat)
  case atStart => exact ⟨0, Nat.zero_le _, rfl, rfl, by simpa [mkMs] using H.out, World.grownBy.refl _ _⟩
  case round =>
    obtain ⟨i, hi, rfl, rfl, hO, hG⟩ := hrel
    rcases Nat.lt_or_ge i n with hlt | hge
    · have hil : i < ms.length := by have := HN.out; omega
      have k1 : (i : Int) < n := by omega
      have k0 : (0 : Int) ≤ i := by omega
      have HS := Lib.hid (mk_set k i ms hil)
      have hML : i < (mkMs k i ++ ms.drop i).length := by rw [List.length_append, mkMs_len, List.length_drop]; omega
      have hML0 : (mkMs k i ++ ms.drop i).length = n := by rw [List.length_append, mkMs_len, List.length_drop]; have := HN.out; omega
      generalize mkMs k i ++ ms.drop i = MS at *
      generalize hx : k + 2 * i = x at *
      have hxk : (x : Int) = (k : Int) + 2 * i := by omega
      clear hx
      have r0 := rowsM_get MS i 0 hML (by omega)
      have q0 := hO.cellAt (i * 2) (by omega)
      rw [Nat.add_zero] at r0
      rw [r0] at q0
      have f0 := hO.frozenAt (i * 2)
      have S1 := hO.stored (i * 2) (.int .i64 (x : Int))
      rw [(rowsM_set MS i (x : Int) hML).1] at S1
      have hML1 : i < (MS.set i ((x : Int), (MS.getD i (0, 0)).2)).length := by rw [List.length_set]; exact hML
      generalize MS.set i ((x : Int), (MS.getD i (0, 0)).2) = M1 at *
      have r1 := rowsM_get M1 i 1 hML1 (by omega)
      have q1 := S1.1.cellAt (i * 2 + 1) (by omega)
      rw [r1] at q1
      have f1 := S1.1.frozenAt (i * 2 + 1)
      have S2 := S1.1.stored (i * 2 + 1) (.int .i64 ((x : Int) + 1))
      rw [(rowsM_set M1 i ((x : Int) + 1) hML1).2] at S2
      have HO2 : Hid (((wr.setCell ⟨g, i * 2, none⟩ (.int .i64 (x : Int))).setCell ⟨g, i * 2 + 1, none⟩ (.int .i64 ((x : Int) + 1))).ownsRow B tK 2 (.slice (some ⟨g, 0, none⟩) n c) n (rowsM (mkMs k (i + 1) ++ ms.drop (i + 1)))) := by
        refine Lib.hid ?_
        rw [← HS.out]
        have e : ((x + 1 : Nat) : Int) = (x : Int) + 1 := by omega
        rw [e]; exact S2.1
      have HG2 := Lib.hid (grown_trans (grown_trans hG S1.2) S2.2)
      simp only [cells2, List.getElem?_cons_zero, List.getElem?_cons_succ] at q0 q1
      clear S1 S2 hO hG r0 r1 HS
      generalize (MS[i]).1 = u0 at *
      generalize (M1[i]).2 = u1 at *
      have ex : Hid (((k + 2 * (i + 1) : Nat) : Int) = (x : Int) + 1 + 1) := by refine Lib.hid ?_; omega
      have hxb : (x : Int) ≤ 200000000 := by omega
      have hx0 : (0 : Int) ≤ (x : Int) := by omega
      clear hxk
      go_wp2_with fail
      go_roundw
      case rel => exact ⟨i + 1, by omega, by go_num, by rw [ex.out], HO2.out, HG2.out⟩
      case measure => simp [intOf]; omega
    · obtain rfl : i = n := by omega
      rw [List.drop_of_length_le (by have := HN.out; omega), List.append_nil] at hO
      have HO := Lib.hid hO
      have HGG := Lib.hid hG
      clear hO hG
      go_wp2
      go_ret
      exact ⟨rfl, HO.out, HGG.out⟩
/-! Places are marked one by one. -/
def mkPl (k : Nat) (d : Pl) : Pl := ⟨(k : Int), ((k + 1 : Nat) : Int), mkS (k + 2), mkMs (k + 3) d.ms.length⟩
def cntP (d : Pl) : Nat := 3 + 2 * d.ms.length
def cntL (ds : List Pl) : Nat := (ds.map cntP).sum
def mkPls : Nat → List Pl → List Pl
  | _, [] => []
  | k, d :: r => mkPl k d :: mkPls (k + cntP d) r
theorem cntL_snoc (ds : List Pl) (d : Pl) : cntL (ds ++ [d]) = cntL ds + cntP d := by simp [cntL]
theorem mkPls_len : ∀ (ds : List Pl) (k : Nat), (mkPls k ds).length = ds.length
  | [], _ => rfl
  | d :: r, k => by simp [mkPls, mkPls_len r]
theorem mkPls_snoc : ∀ (ds : List Pl) (k : Nat) (d : Pl), mkPls k (ds ++ [d]) = mkPls k ds ++ [mkPl (k + cntL ds) d]
  | [], k, d => by simp [mkPls, cntL]
  | x :: r, k, d => by
    rw [List.cons_append, mkPls, mkPls, mkPls_snoc r, List.cons_append]
    simp [cntL, Nat.add_assoc]
theorem mkPls_set {ds : List Pl} {i : Nat} (k : Nat) (h : i < ds.length) : (mkPls k (ds.take i) ++ ds.drop i).set i (mkPl (k + cntL (ds.take i)) ds[i]) = mkPls k (ds.take (i + 1)) ++ ds.drop (i + 1) := by
  have hl : (mkPls k (ds.take i)).length = i := by rw [mkPls_len, List.length_take]; omega
  rw [List.set_append_right _ _ (by omega), hl, Nat.sub_self, List.drop_eq_getElem_cons h, List.set_cons_zero, List.take_succ_eq_append_getElem h, mkPls_snoc, List.append_assoc]
  rfl
theorem mkPls_get {ds : List Pl} {i : Nat} (k : Nat) (h : i < ds.length) (h2 : i < (mkPls k (ds.take i) ++ ds.drop i).length) : (mkPls k (ds.take i) ++ ds.drop i)[i] = ds[i] := by
  have hl : (mkPls k (ds.take i)).length = i := by rw [mkPls_len, List.length_take]; omega
  rw [List.getElem_append_right (by omega)]
  simp [hl]
theorem mkPls_at : ∀ (ds : List Pl) (k i : Nat) (h : i < ds.length) (h2 : i < (mkPls k ds).length), (mkPls k ds)[i] = mkPl (k + cntL (ds.take i)) ds[i]
  | d :: r, k, 0, _, _ => by simp [mkPls, cntL]
  | d :: r, k, i + 1, h, h2 => by
    have := mkPls_at r (k + cntP d) i (by simpa using h) (by rw [mkPls_len]; simpa using h)
    simp only [mkPls, List.getElem_cons_succ, this, List.take_succ_cons]
    simp [cntL, Nat.add_assoc]
theorem rowsI_set : ∀ (fs : List FI) (i c : Nat) (u : Value) (f' : FI) (h : i < fs.length), c < 4 → (cells4 fs[i]).set c u = cells4 f' → (rowsI fs).set (i * 4 + c) u = rowsI (fs.set i f')
  | f :: r, 0, c, u, f', _, hc, he => by
    have he' : (cells4 f).set c u = cells4 f' := by simpa using he
    unfold rowsI
    rw [List.flatMap_cons, List.set_cons_zero, List.flatMap_cons, Nat.zero_mul, Nat.zero_add, List.set_append_left _ _ (by simp [cells4]; omega), he']
  | f :: r, i + 1, c, u, f', h, hc, he => by
    have ih := rowsI_set r i c u f' (by simpa using h) hc (by simpa using he)
    unfold rowsI at ih ⊢
    have e4 : (cells4 f).length = 4 := rfl
    rw [List.flatMap_cons, List.set_cons_succ, List.flatMap_cons, List.set_append_right _ _ (by omega), e4, show (i + 1) * 4 + c - 4 = i * 4 + c by omega, ih]
theorem allO_of {B : Nat} {w : World} : ∀ {ds : List Pl} {fs : List FI}, fs.length = ds.length → (∀ j, (hj : j < ds.length) → (hf : j < fs.length) → PlO B w ds[j] fs[j]) → AllO B w ds fs
  | [], [], _, _ => trivial
  | [], _ :: _, h, _ => by simp at h
  | _ :: _, [], h, _ => by simp at h
  | d :: ds, f :: fs, h, k => ⟨k 0 (by simp) (by simp), allO_of (by simpa using h) fun j hj hf => k (j + 1) (by simpa using hj) (by simpa using hf)⟩
theorem allO_set {B : Nat} {w : World} {ds : List Pl} {fs : List FI} (h : AllO B w ds fs) {i : Nat} {d : Pl} {f : FI} (hp : PlO B w d f) : AllO B w (ds.set i d) (fs.set i f) := by
  have hl := allO_len h
  refine allO_of (by rw [List.length_set, List.length_set]; exact hl) fun j hj hf => ?_
  rw [List.getElem_set, List.getElem_set]
  split
  · exact hp
  · exact allO_get h j (by simpa using hj) (by simpa using hf)
theorem apart_map {fs fs' : List FI} (h : fs.map MkV = fs'.map MkV) (k : ApartF fs) : ApartF fs' := by
  unfold ApartF at k ⊢
  have e : ∀ l : List FI, (l.Pairwise fun f f' => ∀ g, (MkV f).ownBlock = some g → (MkV f').ownBlock ≠ some g) ↔ ((l.map MkV).Pairwise fun v v' : Value => ∀ g, v.ownBlock = some g → v'.ownBlock ≠ some g) := fun l => by rw [List.pairwise_map]
  rw [e] at k ⊢
  rw [← h]; exact k
theorem map_set_same {fs : List FI} {i : Nat} {f : FI} (hi : i < fs.length) (h : MkV f = MkV fs[i]) : fs.map MkV = (fs.set i f).map MkV := by
  rw [List.map_set, h]
  have e : (MkV fs[i]) = (fs.map MkV)[i]'(by simpa using hi) := by simp
  rw [e, List.set_getElem_self]
theorem CodeF.setF {B : Nat} {w : World} {g n c : Nat} {ds : List Pl} {fs : List FI} (h : CodeF B w (.slice (some ⟨g, 0, none⟩) n c) ds fs) (hn : n = ds.length) {i c0 : Nat} {u : Value} {d' : Pl} {f' : FI} (hi : i < fs.length) (hc : c0 < 4)
    (he : (cells4 fs[i]).set c0 u = cells4 f') (hp : PlO B w d' f') (hm : MkV f' = MkV fs[i]) :
    CodeF B (w.setCell ⟨g, i * 4 + c0, none⟩ u) (.slice (some ⟨g, 0, none⟩) n c) (ds.set i d') (fs.set i f') ∧ w.grownBy (w.setCell ⟨g, i * 4 + c0, none⟩ u) (some g) := by
  subst hn
  obtain ⟨h1, h2, h3⟩ := h
  have st := h1.stored (i * 4 + c0) u
  rw [rowsI_set fs i c0 u f' hi hc he] at st
  have hr : ∀ b, (some g : Option Nat) = some b → ∃ cur, w.heap[b]? = some (.cells cur tI (0, 0)) := fun b e => (owns_typed h1 (g := b) (by simpa [Value.ownBlock] using e)).2
  refine ⟨⟨by rw [List.length_set]; exact st.1, allO_set (allO_imp (fun _ _ k => k.kept st.2 hr) h2) (hp.kept st.2 hr), apart_map (map_set_same hi hm) h3⟩, st.2⟩
theorem apart_ne {fs : List FI} (h : ApartF fs) {i j : Nat} (hi : i < fs.length) (hj : j < fs.length) (hij : i ≠ j) {b : Nat} (hb : (MkV fs[i]).ownBlock = some b) : (MkV fs[j]).ownBlock ≠ some b := by
  rcases Nat.lt_or_gt_of_ne hij with hlt | hlt
  · exact List.pairwise_iff_getElem.1 h i j hi hj hlt b hb
  · intro hb'
    exact List.pairwise_iff_getElem.1 h j i hj hi hlt b hb' hb
theorem CodeF.setM {B : Nat} {w w' : World} {v : Value} {ds : List Pl} {fs : List FI} (h : CodeF B w v ds fs) {i : Nat} (hi : i < fs.length) (hid : i < ds.length) {ms' : List (Int × Int)} (hl : ms'.length = ds[i].ms.length)
    (hown : w'.ownsRow B tK 2 (MkV fs[i]) fs[i].ml (rowsM ms')) (hg : w.grownBy w' (MkV fs[i]).ownBlock) : CodeF B w' v (ds.set i ⟨ds[i].op, ds[i].num, ds[i].nm, ms'⟩) fs := by
  obtain ⟨h1, h2, h3⟩ := h
  have hp := allO_get h2 i hid hi
  refine ⟨?_, ?_, h3⟩
  · rw [List.length_set]
    refine h1.kept hg ?_
    cases hb : v.ownBlock with
    | none => exact Or.inl rfl
    | some b =>
      refine Or.inr fun e => ?_
      obtain ⟨-, cur, hc⟩ := owns_typed h1 hb
      obtain ⟨-, cur', hc'⟩ := owns_typed hp.2.2.2.2 e.symm
      rw [hc] at hc'
      have := Option.some.inj hc'
      injection this with _ h _
      exact tIK h
  · refine allO_of (by rw [List.length_set]; exact allO_len h2) fun j hj hf => ?_
    rw [List.getElem_set]
    split
    · rename_i e
      subst e
      exact ⟨hp.1, hp.2.1, hp.2.2.1, by rw [hp.2.2.2.1]; exact hl.symm, hown⟩
    · rename_i e
      have hq := allO_get h2 j (by simpa using hj) hf
      refine ⟨hq.1, hq.2.1, hq.2.2.1, hq.2.2.2.1, hq.2.2.2.2.kept hg ?_⟩
      cases hb : (MkV fs[j]).ownBlock with
      | none => exact Or.inl rfl
      | some b => exact Or.inr fun e2 => apart_ne h3 hi hf e e2.symm hb
theorem grown_below {B : Nat} {w w' : World} {row : Option Nat} (h : w.grownBy w' row) (hB : B ≤ w.heap.size) (hr : ∀ g, row = some g → B ≤ g) : Below B w w' := (Below.refl B w).grown h hB hr
end Go.Proofs.YtjhgmmcglonokaaGreatDoor

namespace Go.Proofs.YtjhgmmcglonokaaGreatDoor
open Go.RowKit
set_option linter.unusedVariables false
set_option linter.unusedSimpArgs false

/-- A program of which one place is looked at. -/
def AtF (B : Nat) (w : World) (g n c : Nat) (D : List Pl) (fs : List FI) (i : Nat) (d : Pl) (f : FI) : Prop := CodeF B w (.slice (some ⟨g, 0, none⟩) n c) (D.set i d) (fs.set i f) ∧ n = D.length ∧ i < n
theorem AtF.lens {B : Nat} {w : World} {g n c i : Nat} {D : List Pl} {fs : List FI} {d : Pl} {f : FI} (h : AtF B w g n c D fs i d f) : i < D.length ∧ i < fs.length := by
  have := allO_len h.1.2.1
  rw [List.length_set, List.length_set] at this
  have := h.2.1
  have := h.2.2
  omega
theorem AtF.pl {B : Nat} {w : World} {g n c i : Nat} {D : List Pl} {fs : List FI} {d : Pl} {f : FI} (h : AtF B w g n c D fs i d f) : PlO B w d f := by
  obtain ⟨l1, l2⟩ := h.lens
  have := allO_get h.1.2.1 i (by rw [List.length_set]; exact l1) (by rw [List.length_set]; exact l2)
  rwa [List.getElem_set_self, List.getElem_set_self] at this
theorem AtF.cell {B : Nat} {w : World} {g n c i : Nat} {D : List Pl} {fs : List FI} {d : Pl} {f : FI} (h : AtF B w g n c D fs i d f) (cc : Nat) (hc : cc < 4) : w.cell? ⟨g, i * 4 + cc, none⟩ = (cells4 f)[cc]? ∧ w.frozen? ⟨g, i * 4 + cc, none⟩ = false := by
  obtain ⟨l1, l2⟩ := h.lens
  have h1 := h.1.1
  rw [List.length_set, ← h.2.1] at h1
  have r := rowsI_get (fs.set i f) i cc (by rw [List.length_set]; exact l2) hc
  rw [List.getElem_set_self] at r
  exact ⟨(h1.cellAt (i * 4 + cc) (by have := h.2.2; omega)).trans r, h1.frozenAt _⟩
theorem AtF.upd {B : Nat} {w : World} {g n c i : Nat} {D : List Pl} {fs : List FI} {d d' : Pl} {f f' : FI} (h : AtF B w g n c D fs i d f) {c0 : Nat} {u : Value} (hc : c0 < 4) (he : (cells4 f).set c0 u = cells4 f') (hp : PlO B w d' f') (hm : MkV f' = MkV f) :
    AtF B (w.setCell ⟨g, i * 4 + c0, none⟩ u) g n c D fs i d' f' ∧ w.grownBy (w.setCell ⟨g, i * 4 + c0, none⟩ u) (some g) := by
  obtain ⟨l1, l2⟩ := h.lens
  have k := h.1.setF (i := i) (c0 := c0) (u := u) (d' := d') (f' := f') (by rw [List.length_set]; exact h.2.1) (by rw [List.length_set]; exact l2) hc (by rw [List.getElem_set_self]; exact he) hp (by rw [List.getElem_set_self]; exact hm)
  rw [List.set_set, List.set_set] at k
  exact ⟨⟨k.1, h.2⟩, k.2⟩
theorem AtF.below {B : Nat} {w w' : World} {g n c i : Nat} {D : List Pl} {fs : List FI} {d : Pl} {f : FI} (h : AtF B w g n c D fs i d f) (hb : Below w.heap.size w w') : AtF B w' g n c D fs i d f := ⟨h.1.below hb, h.2⟩
theorem AtF.mark {B : Nat} {w w' : World} {g n c i : Nat} {D : List Pl} {fs : List FI} {d : Pl} {f : FI} (h : AtF B w g n c D fs i d f) {ms' : List (Int × Int)} (hl : ms'.length = d.ms.length)
    (hown : w'.ownsRow B tK 2 (MkV f) f.ml (rowsM ms')) (hg : w.grownBy w' (MkV f).ownBlock) : AtF B w' g n c D fs i ⟨d.op, d.num, d.nm, ms'⟩ f := by
  obtain ⟨l1, l2⟩ := h.lens
  have k := h.1.setM (i := i) (by rw [List.length_set]; exact l2) (by rw [List.length_set]; exact l1) (ms' := ms') (by rw [List.getElem_set_self]; exact hl) (by rw [List.getElem_set_self]; exact hown) (by rw [List.getElem_set_self]; exact hg)
  rw [List.getElem_set_self, List.set_set] at k
  exact ⟨k, h.2⟩
theorem AtF.start {B : Nat} {w : World} {g n c i : Nat} {D : List Pl} {fs : List FI} (h : CodeF B w (.slice (some ⟨g, 0, none⟩) n c) D fs) (hn : n = D.length) (hi : i < D.length) (hf : i < fs.length) : AtF B w g n c D fs i D[i] fs[i] := by
  refine ⟨?_, hn, by omega⟩
  rw [List.set_getElem_self, List.set_getElem_self]
  exact h
def MarkIP (B : Nat) (a : Option Addr) (n c k0 : Nat) (ds : List Pl) (w : World) (e : Ending) (w' : World) : Prop := e = .returned (.int .i64 ((k0 + cntL ds : Nat) : Int)) ∧ CodeO B w' (.slice a n c) (mkPls k0 ds) ∧ Below B w w'
theorem cnt_take {ds : List Pl} (i : Nat) : cntL (ds.take i) ≤ cntL ds := by
  induction ds generalizing i with
  | nil => simp
  | cons d r ih =>
    cases i with
    | zero => simp [cntL]
    | succ i => have := ih i; simp only [List.take_succ_cons, cntL, List.map_cons, List.sum_cons] at this ⊢; omega
theorem cnt_step {ds : List Pl} {i : Nat} (h : i < ds.length) : cntL (ds.take (i + 1)) = cntL (ds.take i) + (3 + 2 * ds[i].ms.length) := by
  rw [List.take_succ_eq_append_getElem h, cntL_snoc]; rfl
set_option maxRecDepth 20000 in
set_option maxHeartbeats 16000000 in
theorem markIns (B : Nat) (a : Option Addr) (n c k0 : Nat) (ds : List Pl) (w : World) (h : CodeO B w (.slice a n c) ds) (hn : n = ds.length) (hl : n ≤ 1048576) (hk : 1 ≤ k0) (hb0 : k0 + cntL ds ≤ 100000000) (hms : ∀ d ∈ ds, d.ms.length ≤ 1048576) :
    Calls Tryz.prog 10 #[.slice a n c, .int .i64 (k0 : Int)] w (MarkIP B a n c k0 ds w) := by
  have H := Lib.hid h
  have HN := Lib.hid hn
  have HMS := Lib.hid hms
  clear h hn hms
  rcases Nat.eq_zero_or_pos n with h0 | h0
  · have hds : ds = [] := List.eq_nil_of_length_eq_zero (by rw [← HN.out]; exact h0)
    have HP : Hid (CodeO B w (.slice a n c) (mkPls k0 ds) ∧ k0 + cntL ds = k0) := by
      have := H.out
      rw [hds] at this ⊢
      exact ⟨this, rfl⟩
    unfold MarkIP
    have e2 : Hid (((k0 + cntL ds : Nat) : Int) = (k0 : Int)) := by refine Lib.hid ?_; rw [HP.out.2]
    rw [e2.out]
    subst h0
    go_enter Tryz.func10, Tryz.ntmps10
    go_wp2_with fail
    go_loopw [5, 1] (fun vi vk wr => vi = .int .i64 0 ∧ vk = .int .i64 (k0 : Int) ∧ w = wr) (fun _ _ _ => 0)
    case atStart => exact ⟨rfl, rfl, rfl⟩
    case round =>
      obtain ⟨rfl, rfl, rfl⟩ := hrel
      go_wp2
      go_ret
      exact ⟨rfl, HP.out.1, Below.refl _ _⟩
  obtain ⟨FS0, hF0⟩ := H.out
  obtain ⟨g, cp, e1, hbg, hglt⟩ := hF0.1.form (by have := HN.out; omega)
  injection e1 with e1 elen e3
  clear elen
  subst e1 e3
  have HF0 := Lib.hid hF0
  have hB : B ≤ w.heap.size := by omega
  clear hF0
  go_enter Tryz.func10, Tryz.ntmps10
  go_wp2_with fail
  go_loopw [5, 1] (fun vi vk wr => ∃ (i kk : Nat) (fs : List FI), i ≤ n ∧ vi = .int .i64 i ∧ vk = .int .i64 (kk : Int) ∧ Hid (kk = k0 + cntL (ds.take i)) ∧ Hid (CodeF B wr (.slice (some ⟨g, 0, none⟩) n c) (mkPls k0 (ds.take i) ++ ds.drop i) fs) ∧ Below B w wr) (fun vi _ _ => n - (intOf vi).toNat)
  case atStart => exact ⟨0, k0, FS0, Nat.zero_le _, rfl, rfl, by simp [Hid, cntL], by simpa [Hid, mkPls] using HF0.out, Below.refl _ _⟩
  case round =>
    obtain ⟨i, kk, fs, hi, rfl, rfl, hkk, hF, hb⟩ := hrel
    have HB := Lib.hid hb
    have hszr := hb.size
    clear hb
    rcases Nat.lt_or_ge i n with hlt | hge
    · have hil : i < ds.length := by have := HN.out; omega
      have k1 : (i : Int) < n := by omega
      have k00 : (0 : Int) ≤ i := by omega
      have hkb : kk ≤ 100000000 := by have := hkk.out; have := cnt_take (ds := ds) i; omega
      have HSET := Lib.hid (mkPls_set k0 hil)
      have hDL : (mkPls k0 (ds.take i) ++ ds.drop i).length = n := by rw [List.length_append, mkPls_len, List.length_take, List.length_drop]; have := HN.out; omega
      have HGET : Hid (∀ h2, (mkPls k0 (ds.take i) ++ ds.drop i)[i]'h2 = ds[i]) := fun h2 => mkPls_get k0 hil h2
      have HST := Lib.hid (cnt_step hil)
      have hm1 := HMS.out ds[i] (List.getElem_mem _)
      have hkb3 : kk + 3 ≤ 100000000 := by have h1 := HST.out; have h2 := cnt_take (ds := ds) (i + 1); have h3 := hkk.out; omega
      have HKK : Hid (k0 + cntL (ds.take i) = kk) := hkk.out.symm
      rw [HKK.out] at HSET
      generalize mkPls k0 (ds.take i) ++ ds.drop i = D at *
      have hid : i < D.length := by omega
      have hif : i < fs.length := by rw [allO_len hF.out.2.1]; exact hid
      have A0 := AtF.start hF.out hDL.symm hid hif
      have HDI : Hid (D[i] = ds[i]) := HGET.out hid
      rw [HDI.out] at A0
      generalize ds[i] = d at *
      generalize fs[i] = f at *
      obtain ⟨o, nn, s, ms⟩ := d
      obtain ⟨o0, ho0⟩ : ∃ o0, o = o0 := ⟨_, rfl⟩
      obtain ⟨n0, hn0⟩ : ∃ n0, nn = n0 := ⟨_, rfl⟩
      obtain ⟨s0, hs0⟩ : ∃ s0, s = s0 := ⟨_, rfl⟩
      have HSETX : Hid (D.set i (mkPl kk ⟨o0, n0, s0, ms⟩) = mkPls k0 (ds.take (i + 1)) ++ ds.drop (i + 1)) := by rw [← ho0, ← hn0, ← hs0]; exact HSET
      clear ho0 hn0 hs0 HSET
      have HSET := HSETX
      clear HSETX
      obtain ⟨fo, fn, fs', ma, ml, mc⟩ := f
      have P0 := A0.pl
      obtain ⟨p1, p2, p3, p4, p5⟩ := P0
      dsimp only at p1 p2 p3 p4 p5 hm1
      subst p1 p2 p3
      have P5 := Lib.hid p5
      have P4 := Lib.hid p4
      have q0 := A0.cell 0 (by omega)
      have A1 := A0.upd (c0 := 0) (u := .int .i64 (kk : Int)) (d' := ⟨(kk : Int), fn, fs', ms⟩) (f' := ⟨(kk : Int), fn, fs', ma, ml, mc⟩) (by omega) rfl ⟨rfl, rfl, rfl, p4, p5⟩ rfl
      have q1 := A1.1.cell 1 (by omega)
      have A2 := A1.1.upd (c0 := 1) (u := .int .i64 ((kk : Int) + 1)) (d' := ⟨(kk : Int), (kk : Int) + 1, fs', ms⟩) (f' := ⟨(kk : Int), (kk : Int) + 1, fs', ma, ml, mc⟩) (by omega) rfl ⟨rfl, rfl, rfl, p4, A1.1.pl.2.2.2.2⟩ rfl
      rw [Nat.add_zero] at q0 A1 A2 q1
      have G2 := Lib.hid (grown_trans A1.2 A2.2)
      have HA2 := Lib.hid A2.1
      obtain ⟨q0, f0⟩ := q0
      obtain ⟨q1, f1⟩ := q1
      simp only [cells4, List.getElem?_cons_zero, List.getElem?_cons_succ] at q0 q1
      clear A0 A1 A2 p4 p5 hF HGET
      have hkp : (1 : Int) ≤ (kk : Int) := by have := hkk.out; omega
      have hT := Lib.hid (fun W => markTextS (kk + 2) W (by omega) (by omega))
      rw [show (((kk + 2 : Nat)) : Int) = (kk : Int) + 1 + 1 by omega] at hT
      obtain ⟨mt, HMT⟩ : ∃ mt, Hid (mt = mkS (kk + 2)) := ⟨_, rfl⟩
      rw [← HMT.out] at hT
      have hkub : (kk : Int) ≤ 100000000 := by omega
      have hBw := hszr
      generalize hW2 : ((wr.setCell ⟨g, i * 4, none⟩ (.int .i64 (kk : Int))).setCell ⟨g, i * 4 + 1, none⟩ (.int .i64 ((kk : Int) + 1))) = W2 at G2 HA2
      go_wp2_with fail
      clear hW2 q0 f0 q1 f1
      refine (hT.out W2).mono ?_
      rintro e W3 ⟨rfl, d3⟩
      have B2 := grown_below (B := B) G2.out (Nat.le_trans hB hszr) (fun x e => by cases e; exact hbg)
      have B3 := Lib.hid ((HB.out.trans B2).trans (d3.mono (Nat.le_trans hB (HB.out.trans B2).size)))
      have A3 := HA2.out.below d3
      have q2 := A3.cell 2 (by omega)
      have A4 := A3.upd (c0 := 2) (u := .string (mt)) (d' := ⟨(kk : Int), (kk : Int) + 1, mt, ms⟩) (f' := ⟨(kk : Int), (kk : Int) + 1, mt, ma, ml, mc⟩) (by omega) rfl ⟨rfl, rfl, rfl, P4.out, A3.pl.2.2.2.2⟩ rfl
      have q3 := A4.1.cell 3 (by omega)
      obtain ⟨q2, f2⟩ := q2
      obtain ⟨q3, -⟩ := q3
      simp only [cells4, List.getElem?_cons_zero, List.getElem?_cons_succ] at q2 q3
      have HA4 := Lib.hid A4.1
      have B4 := Lib.hid (B3.out.trans (grown_below (B := B) A4.2 (Nat.le_trans hB B3.out.size) (fun x e => by cases e; exact hbg)))
      clear d3 A3 A4 B2 HA2 G2
      have hM := Lib.hid (markMs B ma ml mc ms (kk + 3) _ HA4.out.pl.2.2.2.2 P4.out (by rw [P4.out]; exact hm1) (by omega))
      rw [show (((kk + 3 : Nat)) : Int) = (kk : Int) + 1 + 1 + 1 by omega] at hM
      have hml : ml ≤ 1048576 := by have := P4.out; omega
      generalize hW4 : (W3.setCell ⟨g, i * 4 + 2, none⟩ (.string mt)) = W4 at HA4 B4 hM q3
      go_wp2_with fail
      clear hW4 q2 f2
      refine hM.out.mono ?_
      rintro e W5 ⟨rfl, hO5, g5⟩
      have e5 : Hid ((((kk + 3 + 2 * ml : Nat)) : Int) = (((kk + (3 + 2 * ms.length) : Nat)) : Int)) := by refine Lib.hid ?_; have := P4.out; omega
      have A5 := HA4.out.mark (ms' := mkMs (kk + 3) ml) (by rw [mkMs_len]; exact P4.out) hO5 g5
      have hpl : Hid ((⟨(kk : Int), (kk : Int) + 1, mt, mkMs (kk + 3) ml⟩ : Pl) = mkPl kk ⟨o0, n0, s0, ms⟩) := by refine Lib.hid ?_; rw [HMT.out, P4.out]; rfl
      have B5 := Lib.hid (B4.out.trans (grown_below (B := B) g5 (Nat.le_trans hB B4.out.size) (fun x e => (HA4.out.pl.2.2.2.2.lt x e).1)))
      have HF5 : Hid (CodeF B W5 (.slice (some ⟨g, 0, none⟩) n c) (mkPls k0 (ds.take (i + 1)) ++ ds.drop (i + 1)) (fs.set i ⟨(kk : Int), (kk : Int) + 1, mt, ma, ml, mc⟩)) := by
        refine Lib.hid ?_
        have h := A5.1
        dsimp only at h
        rw [hpl.out, HSET.out] at h
        exact h
      have HK5 : Hid (kk + (3 + 2 * ms.length) = k0 + cntL (ds.take (i + 1))) := by refine Lib.hid ?_; have h1 := HST.out; have h2 := HKK.out; omega
      rw [e5.out]
      generalize kk + (3 + 2 * ms.length) = k9 at *
      clear hO5 g5 A5 q3 hM
      go_wp2_with fail
      go_roundw
      case rel => exact ⟨i + 1, k9, _, by omega, by go_num, rfl, HK5, HF5, B5.out⟩
      case measure => simp [intOf]; omega
    · obtain rfl : i = n := by omega
      have HP : Hid (kk = k0 + cntL ds ∧ CodeF B wr (.slice (some ⟨g, 0, none⟩) i c) (mkPls k0 ds) fs) := by
        have h1 := hkk.out
        have h2 := hF.out
        rw [List.take_of_length_le (by have := HN.out; omega)] at h1 h2
        rw [List.drop_of_length_le (by have := HN.out; omega), List.append_nil] at h2
        exact ⟨h1, h2⟩
      clear hF hkk
      go_wp2
      go_ret
      exact ⟨by have h := HP.out.1; subst h; rfl, ⟨fs, HP.out.2⟩, HB.out⟩
set_option maxHeartbeats 8000000 in
theorem heldMs (a : Option Addr) (n c k : Nat) (w : World) (h : MarksN All w a n (mkMs k n)) (hl : n ≤ 1048576) (hk : k ≤ 100000000) :
    Calls Tryz.prog 40 #[.slice a n c, .int .i64 (k : Int)] w fun e w' => e = .returned (.int .i64 ((k + 2 * n : Nat) : Int)) ∧ w = w' := by
  have H := Lib.hid h
  clear h
  go_enter Tryz.func40, Tryz.ntmps40
  go_wp2_with fail
  go_loop [5, 1] (fun vi vk => ∃ i x : Nat, i ≤ n ∧ vi = .int .i64 i ∧ vk = .int .i64 (x : Int) ∧ Hid (x = k + 2 * i)) (fun vi _ => n - (intOf vi).toNat)
  case atStart => exact ⟨0, k, Nat.zero_le _, rfl, rfl, rfl⟩
  case round =>
    obtain ⟨i, x, hi, rfl, rfl, hx⟩ := hrel
    rcases Nat.lt_or_ge i n with hlt | hge
    · have k1 : (i : Int) < n := by omega
      have k0 : (0 : Int) ≤ i := by omega
      have hxb : (x : Int) ≤ 200000000 := by have := hx.out; omega
      have hx0 : (0 : Int) ≤ (x : Int) := by omega
      obtain ⟨-, hm⟩ := H.out
      rcases hm with h0 | ⟨b, off, rfl, -, -, hc⟩
      · omega
      obtain ⟨q0, q1⟩ := hc i hlt
      have eg : (mkMs k n).getD i (0, 0) = (((k + 2 * i : Nat) : Int), ((k + 2 * i + 1 : Nat) : Int)) := by simp [mkMs, List.getD_eq_getElem?_getD, hlt]
      rw [eg, ← hx.out] at q0 q1
      dsimp only at q0 q1
      rw [show ((x + 1 : Nat) : Int) = (x : Int) + 1 by omega] at q1
      have HX : Hid (x + 1 + 1 = k + 2 * (i + 1)) := by refine Lib.hid ?_; have := hx.out; omega
      clear hc eg
      go_wp2
      go_round
      case rel => exact ⟨i + 1, x + 1 + 1, by omega, by go_num, by go_num, HX⟩
      case measure => simp [intOf]; omega
    · obtain rfl : i = n := by omega
      have HX := hx.out
      subst HX
      go_wp2
      go_ret
      exact ⟨rfl, rfl⟩
set_option maxRecDepth 20000 in
set_option maxHeartbeats 16000000 in
theorem heldIns (a : Option Addr) (n c k0 : Nat) (ds : List Pl) (w : World) (h : PlsN All w a n (mkPls k0 ds)) (hl : n ≤ 1048576) (hk : 1 ≤ k0) (hb0 : k0 + cntL ds ≤ 100000000) (hms : ∀ d ∈ ds, d.ms.length ≤ 1048576) :
    Calls Tryz.prog 11 #[.slice a n c, .int .i64 (k0 : Int)] w fun e w' => e = .returned (.int .i64 ((k0 + cntL ds : Nat) : Int)) ∧ Below w.heap.size w w' := by
  have H := Lib.hid h
  have HN : Hid (n = ds.length) := by have := h.1; rw [mkPls_len] at this; exact this
  have HMS := Lib.hid hms
  clear h hms
  go_enter Tryz.func11, Tryz.ntmps11
  go_wp2_with fail
  go_loopw [5, 1] (fun vi vk wr => ∃ i kk : Nat, i ≤ n ∧ vi = .int .i64 i ∧ vk = .int .i64 (kk : Int) ∧ Hid (kk = k0 + cntL (ds.take i)) ∧ Below w.heap.size w wr) (fun vi _ _ => n - (intOf vi).toNat)
  case atStart => exact ⟨0, k0, Nat.zero_le _, rfl, rfl, by simp [Hid, cntL], Below.refl _ _⟩
  case round =>
    obtain ⟨i, kk, hi, rfl, rfl, hkk, hb⟩ := hrel
    have HB := Lib.hid hb
    clear hb
    rcases Nat.lt_or_ge i n with hlt | hge
    · have hil : i < ds.length := by have := HN.out; omega
      have k1 : (i : Int) < n := by omega
      have k00 : (0 : Int) ≤ i := by omega
      have HST := Lib.hid (cnt_step hil)
      have hm1 := HMS.out ds[i] (List.getElem_mem _)
      have hkb3 : kk + 3 ≤ 100000000 := by have h1 := HST.out; have h2 := cnt_take (ds := ds) (i + 1); have h3 := hkk.out; omega
      obtain ⟨b, off, rfl, -, hbl, hrow⟩ := (H.out.kept (same_of_below (N := All) HB.out)).cells (by omega)
      obtain ⟨f, ⟨y0, y1, y2, y3⟩, ht⟩ := hrow i (by rw [mkPls_len]; exact hil)
      rw [mkPls_at ds k0 i hil, ← hkk.out] at ht
      obtain ⟨e1, e2, e3, hm, hc2⟩ := ht
      obtain ⟨fo, fn, fs, ma, ml, mc⟩ := f
      dsimp only [mkPl] at e1 e2 e3 hm hc2 y0 y1 y2 y3
      rw [e1] at y0
      rw [e2, show ((kk + 1 : Nat) : Int) = (kk : Int) + 1 by omega] at y1
      rw [e3] at y2
      have hml : ml = ds[i].ms.length := by have := hm.1; rw [mkMs_len] at this; exact this
      have HML := Lib.hid hml
      have hM0 : MarksN All wr ma ml (mkMs (kk + 3) ml) := by rw [hml] at hm ⊢; exact hm
      have HM := Lib.hid hM0
      have hml2 : ml ≤ 1048576 := by omega
      have HK5 : Hid (kk + 3 + 2 * ml = k0 + cntL (ds.take (i + 1))) := by refine Lib.hid ?_; have h1 := HST.out; have h2 := hkk.out; have := HML.out; omega
      have cT : ∀ dd os, Calls Tryz.prog 38 #[.int .i64 ((kk : Int) + 1 + 1)] (Go.Sort.grow (redrawn wr dd) os) fun e w'' => e = .returned (.string (mkS (kk + 2))) ∧ ∃ p : Regrown, w'' = Go.Sort.grow (redrawn wr p.d) p.os := fun dd os => Calls.regrown_of (by have := markTextS (kk + 2) (Go.Sort.grow (redrawn wr dd) os) (by omega) (by omega); rw [show (((kk + 2 : Nat)) : Int) = (kk : Int) + 1 + 1 by omega] at this; exact this)
      have g3 : ((mkS (kk + 2)).toList != (mkS (kk + 2)).toList) = false := by simp
      generalize mkS (kk + 2) = mt at *
      have r2 := cell_regrown y2
      have y3' := Lib.hid y3
      have hkp : (0 : Int) ≤ (kk : Int) := by omega
      have hkub : (kk : Int) ≤ 100000000 := by omega
      clear hrow hbl hm hc2 e1 e2 e3 hml hM0 hm1 y2 y3
      go_wp2_with fail
      refine wp_region_quiet_below (by kernel_rfl) (by kernel_rfl) ?_
      repeat (quiet_step (exact cT _ _))
      refine wpQuiet_nil ?_
      intro _ hw'
      obtain ⟨⟨dq, osq⟩, hw''⟩ := hw'
      subst hw''
      have HB2 := Lib.hid (HB.out.trans ((below_regrown wr dq osq).mono HB.out.size))
      have y3 := cell_regrown y3'.out dq osq
      have hM := Lib.hid (heldMs ma ml mc (kk + 3) (Go.Sort.grow (redrawn wr dq) osq) (HM.out.kept (same_of_below (below_regrown wr dq osq))) hml2 (by omega))
      rw [show (((kk + 3 : Nat)) : Int) = (kk : Int) + 1 + 1 + 1 by omega] at hM
      clear cT r2 y0 y1
      generalize Go.Sort.grow (redrawn wr dq) osq = W3 at *
      go_wp2_with fail
      refine hM.out.mono ?_
      rintro e W4 ⟨rfl, rfl⟩
      generalize kk + 3 + 2 * ml = k9 at *
      have k90 : decide ((k9 : Int) < 0) = false := decide_eq_false (by omega)
      clear y3 hM
      go_wp2_with fail
      go_roundw
      case rel => exact ⟨i + 1, k9, by omega, by go_num, rfl, HK5, HB2.out⟩
      case measure => simp [intOf]; omega
    · obtain rfl : i = n := by omega
      have HP : Hid (kk = k0 + cntL ds) := by
        have h1 := hkk.out
        rw [List.take_of_length_le (by have := HN.out; omega)] at h1
        exact h1
      clear hkk
      go_wp2
      go_ret
      exact ⟨by have h := HP.out; subst h; rfl, HB.out⟩
end Go.Proofs.YtjhgmmcglonokaaGreatDoor

namespace Go.Proofs.YtjhgmmcglonokaaGreatDoor
open Go.RowKit
set_option linter.unusedVariables false
set_option linter.unusedSimpArgs false

def CodeRow (B : Nat) (w : World) (v : Value) (ds : List Pl) (fs : List FI) : Prop := w.ownsRow B tI 4 v ds.length (rowsI fs) ∧ AllO B w ds fs
def CodeW (B : Nat) (w : World) (v : Value) (ds : List Pl) : Prop := ∃ fs, CodeRow B w v ds fs
theorem CodeO.toW {B : Nat} {w : World} {v : Value} {ds : List Pl} (h : CodeO B w v ds) : CodeW B w v ds := let ⟨fs, h1, h2, _⟩ := h; ⟨fs, h1, h2⟩
theorem CodeRow.grown {B : Nat} {w w' : World} {v : Value} {ds : List Pl} {fs : List FI} {row : Option Nat} (h : CodeRow B w v ds fs) (hg : w.grownBy w' row) (hr : ∀ b, row = some b → b < B) : CodeRow B w' v ds fs := by
  have hk : ∀ {u : Value} {e : TypeId} {z n : Nat} {xs : List Value}, w.ownsRow B e z u n xs → w'.ownsRow B e z u n xs := fun k => k.kept hg (by
    cases hb : row with
    | none => exact (Classical.em _).imp id (fun hne => hne)
    | some b => exact .inr (fun e => by have h1 := (k.lt b e).1; have := hr b hb; omega))
  exact ⟨hk h.1, allO_imp (fun _ _ k => ⟨k.1, k.2.1, k.2.2.1, k.2.2.2.1, hk k.2.2.2.2⟩) h.2⟩
theorem CodeW.grown {B : Nat} {w w' : World} {v : Value} {ds : List Pl} {row : Option Nat} (h : CodeW B w v ds) (hg : w.grownBy w' row) (hr : ∀ b, row = some b → b < B) : CodeW B w' v ds := let ⟨fs, k⟩ := h; ⟨fs, k.grown hg hr⟩
theorem CodeW.below {B : Nat} {w w' : World} {v : Value} {ds : List Pl} (h : CodeW B w v ds) (hb : Below w.heap.size w w') : CodeW B w' v ds := h.grown (row := none) (below_grownM hb) (fun _ e => by cases e)
theorem CodeW.mono {B B' : Nat} {w : World} {v : Value} {ds : List Pl} (h : CodeW B w v ds) (hB : B' ≤ B) : CodeW B' w v ds := by
  obtain ⟨fs, h1, h2⟩ := h; exact ⟨fs, owns_mono h1 hB, allO_imp (fun _ _ k => k.mono hB) h2⟩
theorem CodeW.made {B : Nat} {w : World} (hB : B ≤ w.heap.size) : CodeW B (w.alloc (.cells #[] tI)) (.slice (some ⟨w.heap.size, 0, none⟩) 0 0) [] := (CodeO.made hB).toW
theorem CodeW.nil (B : Nat) (w : World) : CodeW B w (.slice none 0 0) [] := (CodeO.nil B w).toW
/-- Cells of a place. -/
theorem CodeRow.cells {B : Nat} {w : World} {g n c : Nat} {ds : List Pl} {fs : List FI} (h : CodeRow B w (.slice (some ⟨g, 0, none⟩) n c) ds fs) (hn : n = ds.length) (j : Nat) (hj : j < fs.length) :
    w.cell? ⟨g, j * 4, none⟩ = some (.int .i64 fs[j].op) ∧ w.cell? ⟨g, j * 4 + 1, none⟩ = some (.int .i64 fs[j].num) ∧ w.cell? ⟨g, j * 4 + 2, none⟩ = some (.string fs[j].name) ∧ w.cell? ⟨g, j * 4 + 3, none⟩ = some (.slice fs[j].ma fs[j].ml fs[j].mc) := by
  have hl := allO_len h.2
  have h1 := h.1
  rw [← hn] at h1
  have key := fun c (hc : c < 4) => (h1.cellAt (j * 4 + c) (by omega)).trans (rowsI_get fs j c hj hc)
  exact ⟨key 0 (by omega), key 1 (by omega), key 2 (by omega), key 3 (by omega)⟩
theorem codeW_pls {B : Nat} {w : World} {a : Option Addr} {n c : Nat} {ds : List Pl} (h : CodeW B w (.slice a n c) ds) (hn : n = ds.length) : PlsN All w a n ds := by
  obtain ⟨fs, h1, h2⟩ := h
  refine ⟨hn, ?_⟩
  rcases Nat.eq_zero_or_pos n with h0 | h0
  · exact Or.inl h0
  right
  rw [← hn] at h1
  obtain ⟨g, cap, e, hb, hlt⟩ := h1.form h0
  injection e with e1 e2 e3
  subst e1
  refine ⟨g, 0, rfl, trivial, hlt, fun j hj => ?_⟩
  have hjf : j < fs.length := by rw [allO_len h2]; exact hj
  have key := fun c (hc : c < 4) => (h1.cellAt (j * 4 + c) (by omega)).trans (rowsI_get fs j c hjf hc)
  have hp := allO_get h2 j hj hjf
  refine ⟨fs[j], ⟨by rw [Nat.zero_add]; exact key 0 (by omega), by rw [Nat.zero_add]; exact key 1 (by omega), by rw [Nat.zero_add]; exact key 2 (by omega), by rw [Nat.zero_add]; exact key 3 (by omega)⟩, hp.1, hp.2.1, hp.2.2.1, marksN_owns hp.2.2.2.2 hp.2.2.2.1 (fun _ _ => trivial), ?_⟩
  rcases hp.2.2.2.2.2 with ⟨e, e0⟩ | ⟨g', cap', cur, e, -, -, hle, -⟩
  · unfold MkV at e; injection e with _ e2 e3; omega
  · unfold MkV at e; injection e with _ e2 e3; omega
theorem rowsI_app (fs gs : List FI) : rowsI (fs ++ gs) = rowsI fs ++ rowsI gs := by unfold rowsI; rw [List.flatMap_append]
/-- A row behind a row. -/
theorem CodeRow.app {B : Nat} {w w' : World} {v : Value} {ds ds' : List Pl} {fs fs' : List FI} {a : Option Addr} {n cap : Nat} (h : CodeRow B w v ds fs) (h' : AllO B w ds' fs') (hn : n = ds.length + ds'.length)
    (hown : w'.ownsRow B tI 4 (.slice a n cap) n (rowsI fs ++ rowsI fs')) (hgr : w.grownBy w' v.ownBlock) : CodeRow B w' (.slice a n cap) (ds ++ ds') (fs ++ fs') := by
  have hrow : ∀ b, v.ownBlock = some b → ∃ cur, w.heap[b]? = some (.cells cur tI (0, 0)) := fun b e => (owns_typed h.1 e).2
  refine ⟨?_, allO_app (allO_imp (fun _ _ k => k.kept hgr hrow) h.2) (allO_imp (fun _ _ k => k.kept hgr hrow) h')⟩
  rw [List.length_append, rowsI_app, ← hn]; exact hown
theorem allO_one {B : Nat} {w : World} {d : Pl} {f : FI} (h : PlO B w d f) : AllO B w [d] [f] := ⟨h, trivial⟩
theorem CodeRow.form {B : Nat} {w : World} {v : Value} {ds : List Pl} {fs : List FI} (h : CodeRow B w v ds fs) : ∃ a c, v = .slice a ds.length c ∧ ds.length ≤ c := by
  rcases h.1.2 with ⟨e, e0⟩ | ⟨g, cap, cur, e, -, -, hle, -⟩
  · exact ⟨none, 0, by rw [e, e0], by omega⟩
  · exact ⟨_, _, e, hle⟩
theorem CodeRow.addr {B : Nat} {w : World} {a : Option Addr} {n c : Nat} {ds : List Pl} {fs : List FI} (h : CodeRow B w (.slice a n c) ds fs) (h0 : 0 < ds.length) : ∃ g, a = some ⟨g, 0, none⟩ ∧ n = ds.length ∧ n ≤ c ∧ B ≤ g ∧ g < w.heap.size := by
  rcases h.1.2 with ⟨e, e0⟩ | ⟨g, cap, cur, e, hb, hg, hle, -⟩
  · omega
  · obtain ⟨rfl, rfl, rfl⟩ : a = some ⟨g, 0, none⟩ ∧ n = ds.length ∧ c = cap := by simpa using e
    exact ⟨g, rfl, rfl, hle, hb, (Array.getElem?_eq_some_iff.1 hg).1⟩
/-- A place's field is changed. -/
theorem rowsW_set : ∀ (fs : List FI) (k : Nat) (h : k < fs.length) (f : FI) (j : Nat) (u : Value), j < 4 → cells4 f = (cells4 fs[k]).set j u → rowsI (fs.set k f) = (rowsI fs).set (k * 4 + j) u
  | [], k, h, f, j, u, hj, e => by simp at h
  | x :: r, 0, h, f, j, u, hj, e => by
    simp only [List.getElem_cons_zero] at e
    show cells4 f ++ rowsI r = (cells4 x ++ rowsI r).set (0 * 4 + j) u
    rw [e, Nat.zero_mul, Nat.zero_add, List.set_append_left _ _ (by show j < 4; exact hj)]
  | x :: r, k + 1, h, f, j, u, hj, e => by
    simp only [List.getElem_cons_succ] at e
    show cells4 x ++ rowsI (r.set k f) = (cells4 x ++ rowsI r).set ((k + 1) * 4 + j) u
    rw [rowsW_set r k (by simpa using h) f j u hj e, show (k + 1) * 4 + j = 4 + (k * 4 + j) from by omega]
    rw [List.set_append_right _ _ (by show 4 ≤ 4 + (k * 4 + j); omega)]
    congr 1
    show (rowsI r).set (k * 4 + j) u = (rowsI r).set (4 + (k * 4 + j) - 4) u
    congr 1
    omega
theorem allW_set {B : Nat} {w : World} : ∀ {ds : List Pl} {fs : List FI}, AllO B w ds fs → ∀ (k : Nat) {d : Pl} {f : FI}, PlO B w d f → AllO B w (ds.set k d) (fs.set k f)
  | [], [], _, k, d, f, h => trivial
  | _ :: _, _ :: _, hh, 0, d, f, h => ⟨h, hh.2⟩
  | _ :: _, _ :: _, hh, k + 1, d, f, h => ⟨hh.1, allW_set hh.2 k h⟩
theorem CodeRow.set {B : Nat} {w : World} {g n c : Nat} {ds : List Pl} {fs : List FI} (h : CodeRow B w (.slice (some ⟨g, 0, none⟩) n c) ds fs) (hn : n = ds.length) (k : Nat) (hk : k < fs.length) (d : Pl) (f : FI) (j : Nat) (u : Value) (hj : j < 4) (e : cells4 f = (cells4 fs[k]).set j u) (hd : PlO B w d f) :
    CodeRow B (w.setCell ⟨g, k * 4 + j, none⟩ u) (.slice (some ⟨g, 0, none⟩) n c) (ds.set k d) (fs.set k f) ∧ w.grownBy (w.setCell ⟨g, k * 4 + j, none⟩ u) (some g) := by
  have h1 := h.1
  rw [← hn] at h1
  obtain ⟨a, b⟩ := h1.stored (k * 4 + j) u
  have hrow : ∀ b, some g = some b → ∃ cur, w.heap[b]? = some (.cells cur tI (0, 0)) := fun b e => (owns_typed h1 (by rw [← e]; rfl)).2
  refine ⟨⟨?_, allO_imp (fun _ _ k => k.kept b hrow) (allW_set h.2 k hd)⟩, b⟩
  rw [List.length_set, ← hn, rowsW_set fs k hk f j u hj e]
  exact a
theorem allO_take {B : Nat} {w : World} : ∀ {ds : List Pl} {fs : List FI} (k : Nat), AllO B w ds fs → AllO B w (ds.take k) (fs.take k)
  | [], [], k, h => by simp; trivial
  | _ :: _, _ :: _, 0, h => trivial
  | _ :: _, _ :: _, k + 1, h => ⟨h.1, allO_take k h.2⟩
theorem allO_drop {B : Nat} {w : World} : ∀ {ds : List Pl} {fs : List FI} (k : Nat), AllO B w ds fs → AllO B w (ds.drop k) (fs.drop k)
  | [], [], k, h => by simp; trivial
  | _ :: _, _ :: _, 0, h => h
  | _ :: _, _ :: _, k + 1, h => allO_drop k h.2
theorem rowsI_take (fs : List FI) : ∀ (k : Nat), rowsI (fs.take k) = (rowsI fs).take (k * 4) := by
  induction fs with
  | nil => intro k; simp [rowsI]
  | cons x r ih =>
    intro k
    cases k with
    | zero => simp [rowsI]
    | succ k =>
      show cells4 x ++ rowsI (r.take k) = (cells4 x ++ rowsI r).take ((k + 1) * 4)
      rw [ih k, show (k + 1) * 4 = 4 + k * 4 from by omega]
      rw [List.take_append]
      show _ = (cells4 x).take (4 + k * 4) ++ (rowsI r).take (4 + k * 4 - 4)
      rw [List.take_of_length_le (l := cells4 x) (by show 4 ≤ 4 + k * 4; omega), show 4 + k * 4 - 4 = k * 4 from by omega]
theorem rowsI_drop (fs : List FI) : ∀ (k : Nat), rowsI (fs.drop k) = (rowsI fs).drop (k * 4) := by
  induction fs with
  | nil => intro k; simp [rowsI]
  | cons x r ih =>
    intro k
    cases k with
    | zero => simp
    | succ k =>
      show rowsI (r.drop k) = (cells4 x ++ rowsI r).drop ((k + 1) * 4)
      rw [ih k, show (k + 1) * 4 = 4 + k * 4 from by omega, List.drop_append]
      show _ = (cells4 x).drop (4 + k * 4) ++ (rowsI r).drop (4 + k * 4 - 4)
      rw [List.drop_of_length_le (l := cells4 x) (by show 4 ≤ 4 + k * 4; omega), List.nil_append, show 4 + k * 4 - 4 = k * 4 from by omega]
/-- A drawn program within bounds. -/
def SmW (ds : List Pl) (n : Nat) : Prop := ds.length ≤ n ∧ ∀ d ∈ ds, d.nm.size ≤ 8 ∧ d.ms.length ≤ 5
theorem SmW.small {ds : List Pl} {n : Nat} (h : SmW ds n) : ∀ d ∈ ds, SmallP d := fun d hd => by have := h.2 d hd; exact ⟨by omega, by omega⟩
theorem SmW.snoc {ds : List Pl} {n : Nat} (h : SmW ds n) {d : Pl} (hd : d.nm.size ≤ 8 ∧ d.ms.length ≤ 5) : SmW (ds ++ [d]) (n + 1) := by
  refine ⟨by rw [List.length_append, List.length_singleton]; have := h.1; omega, fun x hx => ?_⟩
  rcases List.mem_append.1 hx with h1 | h1
  · exact h.2 x h1
  · simp at h1; rw [h1]; exact hd
theorem SmW.set {ds : List Pl} {n : Nat} (h : SmW ds n) (k : Nat) {d : Pl} (hd : d.nm.size ≤ 8 ∧ d.ms.length ≤ 5) : SmW (ds.set k d) n := by
  refine ⟨by rw [List.length_set]; exact h.1, fun x hx => ?_⟩
  rcases List.mem_or_eq_of_mem_set hx with h1 | h1
  · exact h.2 x h1
  · rw [h1]; exact hd
theorem SmW.cut {ds : List Pl} {n : Nat} (h : SmW ds n) (k j : Nat) (hj : k ≤ j) : SmW (ds.take k ++ ds.drop j) n := by
  refine ⟨by rw [List.length_append, List.length_take, List.length_drop]; have := h.1; omega, fun x hx => ?_⟩
  rcases List.mem_append.1 hx with h1 | h1
  · exact h.2 x (List.mem_of_mem_take h1)
  · exact h.2 x (List.mem_of_mem_drop h1)
end Go.Proofs.YtjhgmmcglonokaaGreatDoor
