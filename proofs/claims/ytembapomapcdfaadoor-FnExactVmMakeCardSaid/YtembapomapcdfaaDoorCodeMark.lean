/-
  A program of one's own is marked, and held against its marks.
-/
import Derived.Test.YtembapomapcdfaaDoorCodeApp
import Derived.Test.YtembapomapcdfaaDoorMarkTx
import Derived.OwnWalk
import Derived.Deep.RegionWith
namespace Go.Proofs.YtembapomapcdfaaDoor
open Go.RowKit
set_option linter.unusedVariables false
set_option linter.unusedSimpArgs false

def mkMs (k n : Nat) : List (Int × Int) := (List.range n).map fun i => (((k + 2 * i : Nat) : Int), ((k + 2 * i + 1 : Nat) : Int))
theorem mkMs_len (k n : Nat) : (mkMs k n).length = n := by simp [mkMs]
theorem mkMs_succ (k n : Nat) : mkMs k (n + 1) = mkMs k n ++ [(((k + 2 * n : Nat) : Int), ((k + 2 * n + 1 : Nat) : Int))] := by
  unfold mkMs; rw [List.range_succ, List.map_append]; rfl
theorem rowsM_set : ∀ (ms : List (Int × Int)) (i : Nat) (x : Int), i < ms.length → (rowsM ms).set (i * 2) (.int .i64 x) = rowsM (ms.set i (x, (ms.getD i (0, 0)).2)) ∧ (rowsM ms).set (i * 2 + 1) (.int .i64 x) = rowsM (ms.set i ((ms.getD i (0, 0)).1, x))
  | m :: r, 0, x, _ => by simp [rowsM, cells2]
  | m :: r, i + 1, x, h => by
    have ih := rowsM_set r i x (by simpa using h)
    unfold rowsM at ih ⊢
    have e0 : (i + 1) * 2 = i * 2 + 1 + 1 := by omega
    constructor
    · rw [e0]; simp only [List.flatMap_cons, cells2, List.cons_append, List.nil_append, List.set_cons_succ, List.getD_cons_succ]; rw [ih.1]
    · rw [e0]; simp only [List.flatMap_cons, cells2, List.cons_append, List.nil_append, List.set_cons_succ, List.getD_cons_succ]; rw [ih.2]
theorem mk_set (k i : Nat) (ms : List (Int × Int)) (h : i < ms.length) : (((mkMs k i ++ ms.drop i).set i (((k + 2 * i : Nat) : Int), ((mkMs k i ++ ms.drop i).getD i (0, 0)).2))).set i (((((mkMs k i ++ ms.drop i).set i (((k + 2 * i : Nat) : Int), ((mkMs k i ++ ms.drop i).getD i (0, 0)).2)).getD i (0, 0)).1), ((k + 2 * i + 1 : Nat) : Int)) = mkMs k (i + 1) ++ ms.drop (i + 1) := by
  have hl : i < (mkMs k i ++ ms.drop i).length := by rw [List.length_append, mkMs_len, List.length_drop]; omega
  rw [List.set_set]
  have e : ((((mkMs k i ++ ms.drop i).set i (((k + 2 * i : Nat) : Int), ((mkMs k i ++ ms.drop i).getD i (0, 0)).2)).getD i (0, 0)).1) = ((k + 2 * i : Nat) : Int) := by
    rw [List.getD_eq_getElem?_getD, List.getElem?_set_self hl]; rfl
  rw [e, List.set_append_right _ _ (by rw [mkMs_len]; exact Nat.le_refl _), mkMs_len, Nat.sub_self, List.drop_eq_getElem_cons h, List.set_cons_zero, mkMs_succ, List.append_assoc]
  rfl
set_option maxHeartbeats 8000000 in
theorem markMs (B : Nat) (a : Option Addr) (n c : Nat) (ms : List (Int × Int)) (k : Nat) (w : World) (h : w.ownsRow B tK 2 (.slice a n c) n (rowsM ms)) (hn : n = ms.length) (hl : n ≤ 1048576) (hk : k ≤ 100000000) :
    Calls Tryd.prog 49 #[.slice a n c, .int .i64 (k : Int)] w fun e w' => e = .returned (.int .i64 ((k + 2 * n : Nat) : Int)) ∧ w'.ownsRow B tK 2 (.slice a n c) n (rowsM (mkMs k n)) ∧ w.grownBy w' (Value.slice a n c).ownBlock := by
  have H := Lib.hid h
  have HN := Lib.hid hn
  have k00 : (0 : Int) ≤ (k : Int) := by omega
  clear h hn
  rcases Nat.eq_zero_or_pos n with h0 | h0
  · have hms : ms = [] := List.eq_nil_of_length_eq_zero (by rw [← HN.out]; exact h0)
    have HP : Hid (w.ownsRow B tK 2 (.slice a n c) n (rowsM (mkMs k n)) ∧ k + 2 * n = k) := by
      refine ⟨?_, by omega⟩
      have := H.out
      rw [hms] at this
      have e : mkMs k n = [] := by rw [h0]; rfl
      rw [e]; exact this
    have e2 : Hid (((k + 2 * n : Nat) : Int) = (k : Int)) := by refine Lib.hid ?_; omega
    rw [e2.out]
    subst h0
    go_enter Tryd.func49, Tryd.ntmps49
    go_wp2_with fail
    go_loopw [5, 1] (fun vi vk wr => vi = .int .i64 0 ∧ vk = .int .i64 (k : Int) ∧ w = wr) (fun _ _ _ => 0)
    case atStart => exact ⟨rfl, rfl, rfl⟩
    case round =>
      obtain ⟨rfl, rfl, rfl⟩ := hrel
      go_wp2
      go_ret
      exact ⟨rfl, HP.out.1, World.grownBy.refl _ _⟩
  obtain ⟨g, cp, e1, hbg, hglt⟩ := H.out.form h0
  injection e1 with e1 _ e3
  subst e1 e3
  go_enter Tryd.func49, Tryd.ntmps49
  go_wp2_with fail
  go_loopw [5, 1] (fun vi vk wr => ∃ i : Nat, i ≤ n ∧ vi = .int .i64 i ∧ vk = .int .i64 ((k + 2 * i : Nat) : Int) ∧ wr.ownsRow B tK 2 (.slice (some ⟨g, 0, none⟩) n c) n (rowsM (mkMs k i ++ ms.drop i)) ∧ w.grownBy wr (some g)) (fun vi _ _ => n - (intOf vi).toNat)
  case atStart => exact ⟨0, Nat.zero_le _, rfl, rfl, by simpa [mkMs] using H.out, World.grownBy.refl _ _⟩
  case round =>
    obtain ⟨i, hi, rfl, rfl, hO, hG⟩ := hrel
    rcases Nat.lt_or_ge i n with hlt | hge
    · have hil : i < ms.length := by have := HN.out; omega
      have k1 : (i : Int) < n := by omega
      have k0 : (0 : Int) ≤ i := by omega
      have HS := Lib.hid (mk_set k i ms hil)
      have hML : i < (mkMs k i ++ ms.drop i).length := by rw [List.length_append, mkMs_len, List.length_drop]; omega
      have hML0 : (mkMs k i ++ ms.drop i).length = n := by rw [List.length_append, mkMs_len, List.length_drop]; have := HN.out; omega
      generalize mkMs k i ++ ms.drop i = MS at *
      generalize hx : k + 2 * i = x at *
      have hxk : (x : Int) = (k : Int) + 2 * i := by omega
      clear hx
      have r0 := rowsM_get MS i 0 hML (by omega)
      have q0 := hO.cellAt (i * 2) (by omega)
      rw [Nat.add_zero] at r0
      rw [r0] at q0
      have f0 := hO.frozenAt (i * 2)
      have S1 := hO.stored (i * 2) (.int .i64 (x : Int))
      rw [(rowsM_set MS i (x : Int) hML).1] at S1
      have hML1 : i < (MS.set i ((x : Int), (MS.getD i (0, 0)).2)).length := by rw [List.length_set]; exact hML
      generalize MS.set i ((x : Int), (MS.getD i (0, 0)).2) = M1 at *
      have r1 := rowsM_get M1 i 1 hML1 (by omega)
      have q1 := S1.1.cellAt (i * 2 + 1) (by omega)
      rw [r1] at q1
      have f1 := S1.1.frozenAt (i * 2 + 1)
      have S2 := S1.1.stored (i * 2 + 1) (.int .i64 ((x : Int) + 1))
      rw [(rowsM_set M1 i ((x : Int) + 1) hML1).2] at S2
      have HO2 : Hid (((wr.setCell ⟨g, i * 2, none⟩ (.int .i64 (x : Int))).setCell ⟨g, i * 2 + 1, none⟩ (.int .i64 ((x : Int) + 1))).ownsRow B tK 2 (.slice (some ⟨g, 0, none⟩) n c) n (rowsM (mkMs k (i + 1) ++ ms.drop (i + 1)))) := by
        refine Lib.hid ?_
        rw [← HS.out]
        have e : ((x + 1 : Nat) : Int) = (x : Int) + 1 := by omega
        rw [e]; exact S2.1
      have HG2 := Lib.hid (grown_trans (grown_trans hG S1.2) S2.2)
      simp only [cells2, List.getElem?_cons_zero, List.getElem?_cons_succ] at q0 q1
      clear S1 S2 hO hG r0 r1 HS
      generalize (MS[i]).1 = u0 at *
      generalize (M1[i]).2 = u1 at *
      have ex : Hid (((k + 2 * (i + 1) : Nat) : Int) = (x : Int) + 1 + 1) := by refine Lib.hid ?_; omega
      have hxb : (x : Int) ≤ 200000000 := by omega
      have hx0 : (0 : Int) ≤ (x : Int) := by omega
      clear hxk
      go_wp2_with fail
      go_roundw
      case rel => exact ⟨i + 1, by omega, by go_num, by rw [ex.out], HO2.out, HG2.out⟩
      case measure => simp [intOf]; omega
    · obtain rfl : i = n := by omega
      rw [List.drop_of_length_le (by have := HN.out; omega), List.append_nil] at hO
      have HO := Lib.hid hO
      have HGG := Lib.hid hG
      clear hO hG
      go_wp2
      go_ret
      exact ⟨rfl, HO.out, HGG.out⟩
/-! Places are marked one by one. -/
def mkPl (k : Nat) (d : Pl) : Pl := ⟨(k : Int), ((k + 1 : Nat) : Int), mkS (k + 2), mkMs (k + 3) d.ms.length⟩
def cntP (d : Pl) : Nat := 3 + 2 * d.ms.length
def cntL (ds : List Pl) : Nat := (ds.map cntP).sum
def mkPls : Nat → List Pl → List Pl
  | _, [] => []
  | k, d :: r => mkPl k d :: mkPls (k + cntP d) r
theorem cntL_snoc (ds : List Pl) (d : Pl) : cntL (ds ++ [d]) = cntL ds + cntP d := by simp [cntL]
theorem mkPls_len : ∀ (ds : List Pl) (k : Nat), (mkPls k ds).length = ds.length
  | [], _ => rfl
  | d :: r, k => by simp [mkPls, mkPls_len r]
theorem mkPls_snoc : ∀ (ds : List Pl) (k : Nat) (d : Pl), mkPls k (ds ++ [d]) = mkPls k ds ++ [mkPl (k + cntL ds) d]
  | [], k, d => by simp [mkPls, cntL]
  | x :: r, k, d => by
    rw [List.cons_append, mkPls, mkPls, mkPls_snoc r, List.cons_append]
    simp [cntL, Nat.add_assoc]
theorem mkPls_set {ds : List Pl} {i : Nat} (k : Nat) (h : i < ds.length) : (mkPls k (ds.take i) ++ ds.drop i).set i (mkPl (k + cntL (ds.take i)) ds[i]) = mkPls k (ds.take (i + 1)) ++ ds.drop (i + 1) := by
  have hl : (mkPls k (ds.take i)).length = i := by rw [mkPls_len, List.length_take]; omega
  rw [List.set_append_right _ _ (by omega), hl, Nat.sub_self, List.drop_eq_getElem_cons h, List.set_cons_zero, List.take_succ_eq_append_getElem h, mkPls_snoc, List.append_assoc]
  rfl
theorem mkPls_get {ds : List Pl} {i : Nat} (k : Nat) (h : i < ds.length) (h2 : i < (mkPls k (ds.take i) ++ ds.drop i).length) : (mkPls k (ds.take i) ++ ds.drop i)[i] = ds[i] := by
  have hl : (mkPls k (ds.take i)).length = i := by rw [mkPls_len, List.length_take]; omega
  rw [List.getElem_append_right (by omega)]
  simp [hl]
theorem mkPls_at : ∀ (ds : List Pl) (k i : Nat) (h : i < ds.length) (h2 : i < (mkPls k ds).length), (mkPls k ds)[i] = mkPl (k + cntL (ds.take i)) ds[i]
  | d :: r, k, 0, _, _ => by simp [mkPls, cntL]
  | d :: r, k, i + 1, h, h2 => by
    have := mkPls_at r (k + cntP d) i (by simpa using h) (by rw [mkPls_len]; simpa using h)
    simp only [mkPls, List.getElem_cons_succ, this, List.take_succ_cons]
    simp [cntL, Nat.add_assoc]
theorem rowsI_set : ∀ (fs : List FI) (i c : Nat) (u : Value) (f' : FI) (h : i < fs.length), c < 4 → (cells4 fs[i]).set c u = cells4 f' → (rowsI fs).set (i * 4 + c) u = rowsI (fs.set i f')
  | f :: r, 0, c, u, f', _, hc, he => by
    have he' : (cells4 f).set c u = cells4 f' := by simpa using he
    unfold rowsI
    rw [List.flatMap_cons, List.set_cons_zero, List.flatMap_cons, Nat.zero_mul, Nat.zero_add, List.set_append_left _ _ (by simp [cells4]; omega), he']
  | f :: r, i + 1, c, u, f', h, hc, he => by
    have ih := rowsI_set r i c u f' (by simpa using h) hc (by simpa using he)
    unfold rowsI at ih ⊢
    have e4 : (cells4 f).length = 4 := rfl
    rw [List.flatMap_cons, List.set_cons_succ, List.flatMap_cons, List.set_append_right _ _ (by omega), e4, show (i + 1) * 4 + c - 4 = i * 4 + c by omega, ih]
theorem allO_of {B : Nat} {w : World} : ∀ {ds : List Pl} {fs : List FI}, fs.length = ds.length → (∀ j, (hj : j < ds.length) → (hf : j < fs.length) → PlO B w ds[j] fs[j]) → AllO B w ds fs
  | [], [], _, _ => trivial
  | [], _ :: _, h, _ => by simp at h
  | _ :: _, [], h, _ => by simp at h
  | d :: ds, f :: fs, h, k => ⟨k 0 (by simp) (by simp), allO_of (by simpa using h) fun j hj hf => k (j + 1) (by simpa using hj) (by simpa using hf)⟩
theorem allO_set {B : Nat} {w : World} {ds : List Pl} {fs : List FI} (h : AllO B w ds fs) {i : Nat} {d : Pl} {f : FI} (hp : PlO B w d f) : AllO B w (ds.set i d) (fs.set i f) := by
  have hl := allO_len h
  refine allO_of (by rw [List.length_set, List.length_set]; exact hl) fun j hj hf => ?_
  rw [List.getElem_set, List.getElem_set]
  split
  · exact hp
  · exact allO_get h j (by simpa using hj) (by simpa using hf)
theorem apart_map {fs fs' : List FI} (h : fs.map MkV = fs'.map MkV) (k : ApartF fs) : ApartF fs' := by
  unfold ApartF at k ⊢
  have e : ∀ l : List FI, (l.Pairwise fun f f' => ∀ g, (MkV f).ownBlock = some g → (MkV f').ownBlock ≠ some g) ↔ ((l.map MkV).Pairwise fun v v' : Value => ∀ g, v.ownBlock = some g → v'.ownBlock ≠ some g) := fun l => by rw [List.pairwise_map]
  rw [e] at k ⊢
  rw [← h]; exact k
theorem map_set_same {fs : List FI} {i : Nat} {f : FI} (hi : i < fs.length) (h : MkV f = MkV fs[i]) : fs.map MkV = (fs.set i f).map MkV := by
  rw [List.map_set, h]
  have e : (MkV fs[i]) = (fs.map MkV)[i]'(by simpa using hi) := by simp
  rw [e, List.set_getElem_self]
theorem CodeF.setF {B : Nat} {w : World} {g n c : Nat} {ds : List Pl} {fs : List FI} (h : CodeF B w (.slice (some ⟨g, 0, none⟩) n c) ds fs) (hn : n = ds.length) {i c0 : Nat} {u : Value} {d' : Pl} {f' : FI} (hi : i < fs.length) (hc : c0 < 4)
    (he : (cells4 fs[i]).set c0 u = cells4 f') (hp : PlO B w d' f') (hm : MkV f' = MkV fs[i]) :
    CodeF B (w.setCell ⟨g, i * 4 + c0, none⟩ u) (.slice (some ⟨g, 0, none⟩) n c) (ds.set i d') (fs.set i f') ∧ w.grownBy (w.setCell ⟨g, i * 4 + c0, none⟩ u) (some g) := by
  subst hn
  obtain ⟨h1, h2, h3⟩ := h
  have st := h1.stored (i * 4 + c0) u
  rw [rowsI_set fs i c0 u f' hi hc he] at st
  have hr : ∀ b, (some g : Option Nat) = some b → ∃ cur, w.heap[b]? = some (.cells cur tI (0, 0)) := fun b e => (owns_typed h1 (g := b) (by simpa [Value.ownBlock] using e)).2
  refine ⟨⟨by rw [List.length_set]; exact st.1, allO_set (allO_imp (fun _ _ k => k.kept st.2 hr) h2) (hp.kept st.2 hr), apart_map (map_set_same hi hm) h3⟩, st.2⟩
theorem apart_ne {fs : List FI} (h : ApartF fs) {i j : Nat} (hi : i < fs.length) (hj : j < fs.length) (hij : i ≠ j) {b : Nat} (hb : (MkV fs[i]).ownBlock = some b) : (MkV fs[j]).ownBlock ≠ some b := by
  rcases Nat.lt_or_gt_of_ne hij with hlt | hlt
  · exact List.pairwise_iff_getElem.1 h i j hi hj hlt b hb
  · intro hb'
    exact List.pairwise_iff_getElem.1 h j i hj hi hlt b hb' hb
theorem CodeF.setM {B : Nat} {w w' : World} {v : Value} {ds : List Pl} {fs : List FI} (h : CodeF B w v ds fs) {i : Nat} (hi : i < fs.length) (hid : i < ds.length) {ms' : List (Int × Int)} (hl : ms'.length = ds[i].ms.length)
    (hown : w'.ownsRow B tK 2 (MkV fs[i]) fs[i].ml (rowsM ms')) (hg : w.grownBy w' (MkV fs[i]).ownBlock) : CodeF B w' v (ds.set i ⟨ds[i].op, ds[i].num, ds[i].nm, ms'⟩) fs := by
  obtain ⟨h1, h2, h3⟩ := h
  have hp := allO_get h2 i hid hi
  refine ⟨?_, ?_, h3⟩
  · rw [List.length_set]
    refine h1.kept hg ?_
    cases hb : v.ownBlock with
    | none => exact Or.inl rfl
    | some b =>
      refine Or.inr fun e => ?_
      obtain ⟨-, cur, hc⟩ := owns_typed h1 hb
      obtain ⟨-, cur', hc'⟩ := owns_typed hp.2.2.2.2 e.symm
      rw [hc] at hc'
      have := Option.some.inj hc'
      injection this with _ h _
      exact tIK h
  · refine allO_of (by rw [List.length_set]; exact allO_len h2) fun j hj hf => ?_
    rw [List.getElem_set]
    split
    · rename_i e
      subst e
      exact ⟨hp.1, hp.2.1, hp.2.2.1, by rw [hp.2.2.2.1]; exact hl.symm, hown⟩
    · rename_i e
      have hq := allO_get h2 j (by simpa using hj) hf
      refine ⟨hq.1, hq.2.1, hq.2.2.1, hq.2.2.2.1, hq.2.2.2.2.kept hg ?_⟩
      cases hb : (MkV fs[j]).ownBlock with
      | none => exact Or.inl rfl
      | some b => exact Or.inr fun e2 => apart_ne h3 hi hf e e2.symm hb
theorem grown_below {B : Nat} {w w' : World} {row : Option Nat} (h : w.grownBy w' row) (hB : B ≤ w.heap.size) (hr : ∀ g, row = some g → B ≤ g) : Below B w w' := (Below.refl B w).grown h hB hr
end Go.Proofs.YtembapomapcdfaaDoor
