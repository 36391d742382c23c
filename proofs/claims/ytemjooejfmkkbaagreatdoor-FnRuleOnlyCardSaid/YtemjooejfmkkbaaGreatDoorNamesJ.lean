/-
  The names of a rule: texts joined.
-/
import Derived.Test.YtemjooejfmkkbaaGreatDoorJ1
import Derived.Test.YtemjooejfmkkbaaGreatDoorNamesMath
import Derived.Ground.NamesProg
import Derived.Shelf.Lay
import Derived.Shelf.Slices.CompactS
import Derived.Shelf.Slices.In.SortNone
import Derived.Shelf.Sort.Plain
import Derived.Sort.OwnSorted
import Derived.Sort.Grow
import Derived.Lib.OwnBridge
import Derived.Test.YtemjooejfmkkbaaGreatDoorAppSrc
import Derived.Test.YtemjooejfmkkbaaGreatDoorJ27
import Derived.OwnWalk
import Derived.Test.YtemjooejfmkkbaaGreatDoorJ24
namespace Go.Proofs.YtemjooejfmkkbaaGreatDoor
open Go.RowKit
set_option linter.unusedVariables false

/-- The slice (a, len) reads as the texts ss. -/
def Strs (w : World) (a : Option Addr) (len : Nat) (ss : List ByteArray) : Prop :=
  ss.length = len ∧ (len = 0 ∨ ∃ b off, a = some ⟨b, off, none⟩ ∧ b < w.heap.size ∧ ∀ i, i < len → w.cell? ⟨b, off + i, none⟩ = some (.string (ss.getD i ByteArray.empty)))
def total : List ByteArray → Nat
  | [] => 0
  | s :: r => s.size + total r
theorem total_snoc (l : List ByteArray) (s : ByteArray) : total (l ++ [s]) = total l + s.size := by
  induction l with
  | nil => simp [total]
  | cons x r ih => simp only [List.cons_append, total, ih]; omega
theorem total_take_le (l : List ByteArray) (k : Nat) : total (l.take k) ≤ total l := by
  induction l generalizing k with
  | nil => simp [total]
  | cons x r ih =>
    cases k with
    | zero => simp [total]
    | succ k => simp only [List.take_succ_cons, total]; have := ih k; omega
theorem takeStr (l : List ByteArray) (k : Nat) (h : k < l.length) : l.take (k + 1) = l.take k ++ [l.getD k ByteArray.empty] := by
  rw [List.take_succ_eq_append_getElem h]
  simp [h]

theorem Strs.kept {w w' : World} {a : Option Addr} {len : Nat} {ss : List ByteArray} (h : Strs w a len ss) (hb : Below w.heap.size w w') : Strs w' a len ss := by
  obtain ⟨h1, h2⟩ := h
  refine ⟨h1, ?_⟩
  rcases h2 with h2 | ⟨b, off, h2, h3, h4⟩
  · exact Or.inl h2
  · exact Or.inr ⟨b, off, h2, Nat.lt_of_lt_of_le h3 hb.size, fun i hi => (hb.cell (p := ⟨b, off + i, none⟩) h3).trans (h4 i hi)⟩
end Go.Proofs.YtemjooejfmkkbaaGreatDoor

namespace Go.Proofs.YtemjooejfmkkbaaGreatDoor
open Go.RowKit
set_option linter.unusedVariables false

set_option maxHeartbeats 1000000 in
theorem wsWordsS (a a' : Option Addr) (len cap cap' : Nat) (ss : List ByteArray) (w : World) (h : Strs w a len ss) (h' : Strs w a' len ss) (hl : len ≤ 1048576) :
    Calls Tryz.prog 46 #[.slice a len cap, .slice a' len cap'] w fun e w' => e = .returned (.bool true) ∧ Drew w w' := by
  obtain ⟨-, hc⟩ := h
  obtain ⟨-, hc'⟩ := h'
  go_enter Tryz.func46, Tryz.ntmps46
  go_wp2_with fail
  go_loopw [5] (fun i wr => ∃ k : Nat, k ≤ len ∧ i = .int .i64 k ∧ ∃ q, wr = w.drewN q) (fun i _ => len - (intOf i).toNat)
  case atStart => exact ⟨0, Nat.zero_le _, rfl, 0, rfl⟩
  case round =>
    obtain ⟨k, hk, rfl, q, rfl⟩ := hrel
    rcases Nat.lt_or_ge k len with hlt | hge
    · rcases hc with hc | ⟨b, off, rfl, hbl, hcell⟩
      · omega
      rcases hc' with hc' | ⟨b', off', rfl, hbl', hcell'⟩
      · omega
      have c1 := hcell k hlt
      have c2 := hcell' k hlt
      clear hcell hcell'
      generalize ss.getD k ByteArray.empty = s at *
      have k1 : (k : Int) < len := by omega
      have k0 : (0 : Int) ≤ k := by omega
      go_wp2_with fail
      go_quiet (fail)
      go_wp2
      go_roundw
      case rel => exact ⟨k + 1, by omega, by go_num, _, rfl⟩
      case measure => simp [intOf]; omega
    · obtain rfl : k = len := by omega
      go_wp2
      go_ret
      exact ⟨rfl, q, rfl⟩
end Go.Proofs.YtemjooejfmkkbaaGreatDoor

namespace Go.Proofs
open Go.Shelf
shelf_lay Lays.n190 Nm 190 at Tryz as Tryz.laysSortS
shelf_lay Lays.n194 Nm 194 at Tryz as Tryz.laysCompactS
end Go.Proofs
namespace Go.Proofs.YtemjooejfmkkbaaGreatDoor
open Go.RowKit Go.Shelf Go.Sort
set_option linter.unusedVariables false
set_option linter.unusedSimpArgs false

def sortedU (l : List (List UInt8)) : List (List UInt8) := l.mergeSort fun x y => decide (x ≤ y)
theorem sortedU_len (l : List (List UInt8)) : (sortedU l).length = l.length := List.length_mergeSort l
theorem compactU (l : List (List UInt8)) : Lib.compact (sortedU l) = putsU [] l := compact_sort l
theorem sortCallS {B : Nat} {a : Option Addr} {n c : Nat} {l : List (List UInt8)} {w : World} (h : w.ownsRow B 9 1 (.slice a n c) n (l.map encStr)) (hn : n ≤ 1048576) :
    Calls Tryz.prog 106 #[.slice a n c] w fun e w' => e = .returned (.tuple #[]) ∧ w'.ownsRow B 9 1 (.slice a n c) n ((sortedU l).map encStr) ∧ w.grownBy w' (Value.slice a n c).ownBlock := by
  have hl : l.length = n := by simpa using h.1
  rcases Nat.eq_zero_or_pos n with h0 | h0
  · subst h0
    have : l = [] := List.eq_nil_of_length_eq_zero hl
    subst this
    refine (Any.slices_Sort_string_none Tryz.laysSortS a c w).mono ?_
    rintro e w' ⟨rfl, rfl⟩
    exact ⟨rfl, by simpa [sortedU] using h, World.grownBy.refl _ _⟩
  · obtain ⟨g, cap, hv, hbase, hg, hcap, hm, -, hH⟩ := Lib.holds_of_ownsRow h (by
      intro e
      injection e with _ e _
      omega)
    injection hv with ha _ hc
    subst ha hc
    subst hl
    refine (Any.slices_Sort_string Tryz.laysSortS g 0 c l w hH hg (by omega)).mono ?_
    rintro e w' ⟨rfl, nn, os, rfl⟩
    rcases h.2 with ⟨k0, _⟩ | ⟨g', cap', cur, hv', hb', hb, h1, h2, h3, h4⟩
    · cases k0
    injection hv' with e1 _ e3
    injection e1 with e1
    injection e1 with e1 _ _
    subst e1 e3
    exact ⟨rfl, ownsRow_sorted (sortedU_len l) hbase hb h1 h2 h3, grownBy_sorted _⟩
theorem compactCallS {B : Nat} {a : Option Addr} {n c : Nat} {l : List (List UInt8)} {w : World} (h : w.ownsRow B 9 1 (.slice a n c) n ((sortedU l).map encStr)) (hn : n ≤ 1048576) :
    Calls Tryz.prog 107 #[.slice a n c] w fun e w' => e = .returned (.slice a (putsU [] l).length c) ∧ w'.ownsRow B 9 1 (.slice a (putsU [] l).length c) (putsU [] l).length ((putsU [] l).map encStr) ∧ w.grownBy w' (Value.slice a n c).ownBlock := by
  have hl : (sortedU l).length = n := by simpa using h.1
  have hll := sortedU_len l
  rcases Nat.eq_zero_or_pos n with h0 | h0
  · subst h0
    have : l = [] := List.eq_nil_of_length_eq_zero (by omega)
    subst this
    refine (Any.slices_Compact_string_empty Tryz.laysCompactS a c w).mono ?_
    rintro e w' ⟨rfl, rfl⟩
    exact ⟨rfl, by simpa [sortedU, putsU] using h, World.grownBy.refl _ _⟩
  · obtain ⟨g, cap, hv, hbase, hg, hcap, hm, -, hH⟩ := Lib.holds_of_ownsRow h (by
      intro e
      injection e with _ e _
      omega)
    injection hv with ha _ hc
    subst ha hc
    subst hl
    have hle := Lib.compact_length_le (sortedU l)
    refine (Any.slices_Compact_string Tryz.laysCompactS g 0 c (sortedU l) w hH (by omega) hcap).mono ?_
    rintro e w' ⟨rfl, q, rfl⟩
    have ho := Lib.ownsRow_putRow (q := q) (k := (Lib.compact (sortedU l)).length) (ys := Lib.compact (sortedU l) ++ List.replicate ((sortedU l).length - (Lib.compact (sortedU l)).length) []) h (by simp; omega) hle
    rw [List.take_left] at ho
    rw [compactU] at ho ⊢
    refine ⟨rfl, ho, rfl, rfl, rfl, by simp [putRow, mapBlock, Sort.ahead], fun k hk hne => ?_⟩
    have : g ≠ k := fun e => hne (by rw [e]; rfl)
    simp [putRow, mapBlock, Sort.ahead, Array.getElem?_modify, this]
end Go.Proofs.YtemjooejfmkkbaaGreatDoor

namespace Go.Proofs.YtemjooejfmkkbaaGreatDoor
open Go.RowKit
set_option linter.unusedVariables false
set_option linter.unusedSimpArgs false

theorem infoStr : (Tryz.prog.info? 9).map (fun i => (i.zero, i.size, i.bytes)) = some (some (.string ⟨#[]⟩), 1, 16) := by kernel_rfl
def RowU (B : Nat) (w : World) (v : Value) (n : Nat) (l : List (List UInt8)) : Prop := w.ownsRow B 9 1 v n (l.map encStr)
def NamesP (l : List (List UInt8)) (w : World) (e : Ending) (w' : World) : Prop := ∃ (a : Option Addr) (n c : Nat), e = .returned (.slice a n c) ∧ n = l.length ∧ RowU w.heap.size w' (.slice a n c) n l ∧ Below w.heap.size w w'
theorem namesL_take {ks : List Tr} {k : Nat} (h : k < ks.length) : namesL (ks.take (k + 1)) = namesL (ks.take k) ++ namesT ks[k] := by
  rw [List.take_succ_eq_append_getElem h, namesL_snoc]
theorem names_len : ∀ (k : Nat) (t : Tr), wT t ≤ k → (namesT t).length ≤ wT t
  | 0, .node o n s ks ms, hw => by rw [wT] at hw; omega
  | k + 1, .node o n s ks ms, hw => by
    rw [wT] at hw ⊢
    have e : ∀ ks : List Tr, wL ks ≤ k → (namesL ks).length ≤ wL ks := by
      intro ks
      induction ks with
      | nil => intro _; simp [namesL, wL]
      | cons t r ih =>
        intro hr
        rw [wL] at hr ⊢
        rw [namesL, List.length_append]
        have h1 := names_len k t (by omega)
        have h2 := ih (by omega)
        omega
    have h1 := e ks (by omega)
    rw [namesT, List.length_append]
    split <;> simp only [List.length_cons, List.length_nil] <;> omega
theorem RowU.below {B : Nat} {w w' : World} {v : Value} {n : Nat} {l : List (List UInt8)} (h : RowU B w v n l) (hb : Below w.heap.size w w') : RowU B w' v n l := h.kept (row := none) (below_grownM hb) (Classical.em _)
theorem addA (b o j : Nat) : (⟨b, o, none⟩ : Addr).add j = ⟨b, o + j, none⟩ := by unfold Addr.add; split <;> simp_all
theorem src_one {w : World} {gx : Nat} {s : ByteArray} (h : w.heap[gx]? = some (.cells #[.string s] 9 (0, 0))) : Src w (some ⟨gx, 0, none⟩) 1 1 [.string s] :=
  ⟨rfl, fun _ => ⟨_, rfl, World.news_of_block h⟩⟩
theorem enc_data (s : ByteArray) : encStr s.data.toList = Value.string s := by simp [encStr]
/-- What stands in a row of one's own, as a source. -/
theorem src_row {B : Nat} {w : World} {a : Option Addr} {n c : Nat} {l : List (List UInt8)} (h : RowU B w (.slice a n c) n l) : Src w a n 1 (l.map encStr) := by
  refine ⟨by rw [Nat.mul_one]; exact by have := h.1; rw [Nat.mul_one] at this; exact this, fun h0 => ?_⟩
  obtain ⟨g, cap, hv, hbase, hg⟩ := h.form (by omega)
  injection hv with ha _ hc
  subst ha
  refine ⟨_, rfl, fun j u hj => ?_⟩
  have hjl := (List.getElem?_eq_some_iff.1 hj).1
  have hn := h.1
  rw [addA, Nat.zero_add]
  have hr : RowU B w (.slice (some ⟨g, 0, none⟩) n c) n l := h
  rw [World.ownsRow.cellAt hr j (by omega)]
  exact hj
theorem RowU.slice {B : Nat} {w : World} {v : Value} {n : Nat} {l : List (List UInt8)} (h : RowU B w v n l) : ∃ a c, v = .slice a n c := by
  rcases h.2 with ⟨h1, h2⟩ | ⟨g, cap, cur, h1, -⟩
  · exact ⟨none, 0, by rw [h1, h2]⟩
  · exact ⟨_, _, h1⟩
theorem one_map (l : List (List UInt8)) : ∀ u ∈ l.map encStr, u.oneCell' = true := by
  intro u hu
  obtain ⟨x, -, rfl⟩ := List.mem_map.1 hu
  rfl
def NamesAtI (t : Tr) : Prop := ∀ (f : Fld) (w : World), TrF All w t f → OkP t → Calls Tryz.prog 105 #[f.val] w (NamesP (namesT t) w)
theorem two_head (o : Int) (s : ByteArray) (ks : List Tr) (n : Int) (ms : List (Int × Int)) : namesT (.node o n s ks ms) = (if o = 2 then [s.data.toList] else []) ++ namesL ks := by rw [namesT]
set_option maxRecDepth 100000 in
set_option maxHeartbeats 16000000 in
theorem namesIN (o n : Int) (s : ByteArray) (ks : List Tr) (ms : List (Int × Int)) (ih : ∀ t ∈ ks, NamesAtI t) : NamesAtI (.node o n s ks ms) := by
  intro f w h hok
  obtain ⟨i0, hi, hz0, hz1, hz2⟩ := info_parts infoStr
  obtain ⟨e1, e2, e3, hm, hk, hc1, hc2⟩ := trF_iff.1 h
  obtain ⟨fo, fn, fs, ka, kl, kc, ma, ml, mc⟩ := f
  dsimp only at e1 e2 e3 hm hk hc1 hc2
  have q1 := e1.symm
  have q2 := e2.symm
  have q3 := e3.symm
  clear e1 e2 e3
  subst q1 q2 q3
  obtain rfl := hk.1
  obtain rfl := hm.1
  obtain ⟨hpl, hoks⟩ := okP_parts hok
  have hw29 : wL ks ≤ 29 := by have := okP_w hok; rw [wT] at this; omega
  have hkb : ks.length ≤ 29 := by have := len_wL ks; omega
  have HK := Lib.hid hk
  have IH := Lib.hid ih
  have HOK := Lib.hid hoks
  have HT := Lib.hid (two_head o s ks n ms)
  have HNB : Hid (∀ k, (namesL (ks.take k)).length ≤ 29) := fun k => by
    have e : ∀ l : List Tr, (namesL l).length ≤ wL l := by
      intro l
      induction l with
      | nil => simp [namesL, wL]
      | cons t r ih => rw [namesL, wL, List.length_append]; have := names_len _ t (Nat.le_refl _); omega
    have h1 := e (ks.take k)
    have h2 := wL_take ks k
    omega
  clear h hm hk hc1 hc2 hpl hoks hok ih
  unfold Fld.val
  dsimp only
  have hA : Below w.heap.size w (w.alloc (.cells #[.int .i64 o, .int .i64 n, .string s, .slice ka ks.length kc, .slice ma ms.length mc] 38)) := (Below.refl _ _).alloc (Nat.le_refl _) _
  have hArg : (w.alloc (.cells #[.int .i64 o, .int .i64 n, .string s, .slice ka ks.length kc, .slice ma ms.length mc] 38)).heap[w.heap.size]? = some (.cells #[.int .i64 o, .int .i64 n, .string s, .slice ka ks.length kc, .slice ma ms.length mc] 38 (0, 0)) := heap_alloc_new w _
  have HA := Lib.hid hA
  have HArg := Lib.hid hArg
  clear hA hArg
  obtain ⟨hd, hhd⟩ : ∃ hd : List (List UInt8), hd = (if o = 2 then [s.data.toList] else []) := ⟨_, rfl⟩
  have HHD := Lib.hid hhd
  have hdl : hd.length ≤ 1 := by rw [hhd]; split <;> simp
  rw [HT.out, ← hhd]
  clear hhd
  unfold NamesP
  cases ho : (o == 2) with
  | true =>
    have ho2 : o = 2 := by simpa using ho
    have HS : Hid (hd = [s.data.toList]) := by refine Lib.hid ?_; rw [HHD.out, if_pos ho2]
    clear ho2
    go_enter Tryz.func105, Tryz.ntmps105
    have HB0 : Hid (Below w.heap.size w ((w.alloc (.cells #[.int .i64 o, .int .i64 n, .string s, .slice ka ks.length kc, .slice ma ms.length mc] 38)).alloc (.cells #[.string s] 9))) := HA.out.alloc (by simp only [World.size_alloc]; omega) _
    have hnew : ((w.alloc (.cells #[.int .i64 o, .int .i64 n, .string s, .slice ka ks.length kc, .slice ma ms.length mc] 38)).alloc (.cells #[.string s] 9)).heap[w.heap.size + 1]? = some (.cells #[.string s] 9 (0, 0)) := by
      have := heap_alloc_new (w.alloc (.cells #[.int .i64 o, .int .i64 n, .string s, .slice ka ks.length kc, .slice ma ms.length mc] 38)) (.cells #[.string s] 9)
      rw [World.size_alloc] at this
      exact this
    have hold : ((w.alloc (.cells #[.int .i64 o, .int .i64 n, .string s, .slice ka ks.length kc, .slice ma ms.length mc] 38)).alloc (.cells #[.string s] 9)).heap[w.heap.size]? = some (.cells #[.int .i64 o, .int .i64 n, .string s, .slice ka ks.length kc, .slice ma ms.length mc] 38 (0, 0)) := by
      rw [Lib.alloc_old _ _ _ (by simp only [World.size_alloc]; omega)]
      exact HArg.out
    have SRC1 := Lib.hid (src_one hnew)
    have HOLD := Lib.hid hold
    clear hnew hold
    go_wp2_with (at_builtin; refine wpList_append_src ?tp1 ?tps ?tpx 60 ?tp2 w.heap.size 9 i0 (.string ⟨#[]⟩) 1 16 ?tp3 ?tp4 ?tp5 ?tp6 ?tp7 ?tp8 ?tp9 (.slice none 0 0) 0 [] ?tp10 ?tph1 (some ⟨w.heap.size + 1, 0, none⟩) 1 1 [.string s] ?tp11 ?tph2 ?tph3 ?tpc1 ?tpc2 ?tpc3 ?_; (case tp1 => rfl); (case tp2 => rfl); (case tp10 => rfl); (case tp11 => rfl); (case tph1 => exact World.ownsRow_nil _ _ _ _); (case tp3 => exact Tryz.underlying60); (case tp4 => exact hi); (case tp5 => exact hz0); (case tp6 => exact hz1); (case tp7 => exact hz2); (case tp8 => rfl); (case tp9 => decide); (case tph2 => exact SRC1.out); (case tph3 => intro u hu; simp at hu; subst hu; rfl); (case tpc1 => unfold maxLen; omega); (case tpc2 => omega); (case tpc3 => exact HB0.out.size); intro vz wz hownZ hgrowZ hatZ; have hRZ : RowU w.heap.size wz vz 1 [s.data.toList] := (by unfold RowU; rw [List.map_cons, List.map_nil, enc_data]; exact hownZ); have HR0 := Lib.hid hRZ; have HB1 := Lib.hid (HB0.out.grown hgrowZ HB0.out.size (fun y e => (by cases e))); have hoz := (hgrowZ.block _ (Array.getElem?_eq_some_iff.1 HOLD.out).1 (fun e => (by cases e))).trans HOLD.out; have ca3 : wz.cell? ⟨w.heap.size, 3, none⟩ = some (Value.slice ka ks.length kc) := (by rw [Lib.cell_of_heap hoz]; rfl); clear hownZ hgrowZ hatZ hRZ hoz HB0)
    obtain ⟨az, cz, hvz⟩ := HR0.out.slice
    subst hvz
    go_loopw [3, 17] (fun vn vi wr => ∃ (k : Nat) (a : Option Addr) (c : Nat), k ≤ ks.length ∧ vi = .int .i64 k ∧ vn = .slice a (hd ++ namesL (ks.take k)).length c ∧ Hid (RowU w.heap.size wr (.slice a (hd ++ namesL (ks.take k)).length c) (hd ++ namesL (ks.take k)).length (hd ++ namesL (ks.take k))) ∧ Hid (Below w.heap.size w wr)) (fun _ vi _ => ks.length - (intOf vi).toNat)
    case atStart => exact ⟨0, az, cz, Nat.zero_le _, rfl, by rw [HS.out]; simp [namesL], by refine Lib.hid ?_; rw [HS.out]; simpa [namesL] using HR0.out, HB1⟩
    case round =>
      obtain ⟨k, a, c, hk, rfl, rfl, hC, hb⟩ := hrel
      clear HR0 HB1 ca3
      have hdk := HNB.out k
      have hlen : (hd ++ namesL (ks.take k)).length ≤ 30 := by rw [List.length_append]; omega
      rcases Nat.lt_or_ge k ks.length with hlt | hge
      · have k1 : (k : Int) < ks.length := by omega
        have k0 : (0 : Int) ≤ k := by omega
        obtain ⟨b, off, rfl, -, hbl, hrow⟩ := (HK.out.kept (same_of_below (N := All) hb.out)).cells (by omega)
        obtain ⟨f, ⟨y0, y1, y2, y3, y4⟩, ht⟩ := hrow k hlt
        have hXB : Below wr.heap.size wr (wr.alloc (.cells #[.int .i64 f.op, .int .i64 f.num, .string f.name, .slice f.ka f.kl f.kc, .slice f.ma f.ml f.mc] 38)) := (Below.refl _ _).alloc (Nat.le_refl _) _
        have hcall := Lib.hid (IH.out ks[k] (List.getElem_mem _) f _ (ht.kept (same_of_below hXB)) (HOK.out _ (List.getElem_mem _)))
        have HXB := Lib.hid hXB
        have HSN : Hid (hd ++ namesL (ks.take (k + 1)) = (hd ++ namesL (ks.take k)) ++ namesT ks[k]) := by refine Lib.hid ?_; rw [namesL_take hlt, List.append_assoc]
        have hcl : (namesT ks[k]).length ≤ 30 := by
          have h1 := names_len _ ks[k] (Nat.le_refl _)
          have h2 := okP_w (HOK.out _ (List.getElem_mem hlt))
          omega
        unfold Fld.val NamesP at hcall
        generalize hd ++ namesL (ks.take k) = DS at *
        generalize namesT ks[k] = CT at *
        clear hrow ht hbl hXB
        go_wp2_with fail
        refine hcall.out.mono ?_
        rintro e w2 ⟨a', n', c', rfl, rfl, hC', d2⟩
        have HD2 := Lib.hid (HXB.out.trans (d2.mono HXB.out.size))
        have HB2 := Lib.hid (hb.out.trans (HD2.out.mono hb.out.size))
        have hbz := HB2.out.size
        have HR2 := Lib.hid (hC.out.below HD2.out)
        have HS2 := Lib.hid (src_row hC')
        clear d2 hcall hC' hC hb y0 y1 y2 y3 y4
        go_wp2_with (at_builtin; refine wpList_append_src ?ap1 ?aps ?apx 60 ?ap2 w.heap.size 9 i0 (.string ⟨#[]⟩) 1 16 ?ap3 ?ap4 ?ap5 ?ap6 ?ap7 ?ap8 ?ap9 (.slice a DS.length c) DS.length (DS.map encStr) ?ap10 ?aph1 a' CT.length c' (CT.map encStr) ?ap11 ?aph2 ?aph3 ?apc1 ?apc2 ?apc3 ?_; (case ap1 => rfl); (case ap2 => rfl); (case ap10 => rfl); (case ap11 => rfl); (case aph1 => exact HR2.out); (case ap3 => exact Tryz.underlying60); (case ap4 => exact hi); (case ap5 => exact hz0); (case ap6 => exact hz1); (case ap7 => exact hz2); (case ap8 => rfl); (case ap9 => decide); (case aph2 => exact HS2.out); (case aph3 => exact one_map _); (case apc1 => unfold maxLen; omega); (case apc2 => omega); (case apc3 => exact hbz); intro vz wz hownZ hgrowZ hatZ)
        all_goals
          have hRZ : RowU w.heap.size wz vz (DS.length + CT.length) (DS ++ CT) := by unfold RowU; rw [List.map_append]; exact hownZ
          obtain ⟨az, cz, rfl⟩ := hRZ.slice
          have hbN : Below w.heap.size w wz := HB2.out.grown hgrowZ hbz (fun y e => (World.ownsRow.lt HR2.out y e).1)
          have HRZ := Lib.hid hRZ
          have HBN := Lib.hid hbN
          clear hownZ hgrowZ hatZ hRZ hbN HR2 HS2
          go_wp2_with fail
          go_roundw
          case rel => exact ⟨k + 1, az, cz, by omega, by go_num, by rw [HSN.out, List.length_append], by rw [HSN.out, List.length_append]; exact HRZ, HBN⟩
          case measure => simp [intOf]; omega
      · obtain rfl : k = ks.length := by omega
        rw [List.take_length] at hC ⊢
        go_wp2
        go_ret
        exact ⟨a, _, c, rfl, rfl, hC.out, hb.out⟩
  | false =>
    have ho2 : ¬ o = 2 := by simpa using ho
    have HS : Hid (hd = []) := by refine Lib.hid ?_; rw [HHD.out, if_neg ho2]
    clear ho2
    go_enter Tryz.func105, Tryz.ntmps105
    have HB0 := HA
    have HR0 : Hid (RowU w.heap.size (w.alloc (.cells #[.int .i64 o, .int .i64 n, .string s, .slice ka ks.length kc, .slice ma ms.length mc] 38)) (.slice none 0 0) 0 []) := World.ownsRow_nil _ _ _ _
    go_wp2_with fail
    go_loopw [3, 17] (fun vn vi wr => ∃ (k : Nat) (a : Option Addr) (c : Nat), k ≤ ks.length ∧ vi = .int .i64 k ∧ vn = .slice a (hd ++ namesL (ks.take k)).length c ∧ Hid (RowU w.heap.size wr (.slice a (hd ++ namesL (ks.take k)).length c) (hd ++ namesL (ks.take k)).length (hd ++ namesL (ks.take k))) ∧ Hid (Below w.heap.size w wr)) (fun _ vi _ => ks.length - (intOf vi).toNat)
    case atStart => exact ⟨0, none, 0, Nat.zero_le _, rfl, by rw [HS.out]; simp [namesL], by refine Lib.hid ?_; rw [HS.out]; simpa [namesL] using HR0.out, HB0⟩
    case round =>
      obtain ⟨k, a, c, hk, rfl, rfl, hC, hb⟩ := hrel
      clear HR0 HB0
      have hdk := HNB.out k
      have hlen : (hd ++ namesL (ks.take k)).length ≤ 30 := by rw [List.length_append]; omega
      rcases Nat.lt_or_ge k ks.length with hlt | hge
      · have k1 : (k : Int) < ks.length := by omega
        have k0 : (0 : Int) ≤ k := by omega
        obtain ⟨b, off, rfl, -, hbl, hrow⟩ := (HK.out.kept (same_of_below (N := All) hb.out)).cells (by omega)
        obtain ⟨f, ⟨y0, y1, y2, y3, y4⟩, ht⟩ := hrow k hlt
        have hXB : Below wr.heap.size wr (wr.alloc (.cells #[.int .i64 f.op, .int .i64 f.num, .string f.name, .slice f.ka f.kl f.kc, .slice f.ma f.ml f.mc] 38)) := (Below.refl _ _).alloc (Nat.le_refl _) _
        have hcall := Lib.hid (IH.out ks[k] (List.getElem_mem _) f _ (ht.kept (same_of_below hXB)) (HOK.out _ (List.getElem_mem _)))
        have HXB := Lib.hid hXB
        have HSN : Hid (hd ++ namesL (ks.take (k + 1)) = (hd ++ namesL (ks.take k)) ++ namesT ks[k]) := by refine Lib.hid ?_; rw [namesL_take hlt, List.append_assoc]
        have hcl : (namesT ks[k]).length ≤ 30 := by
          have h1 := names_len _ ks[k] (Nat.le_refl _)
          have h2 := okP_w (HOK.out _ (List.getElem_mem hlt))
          omega
        unfold Fld.val NamesP at hcall
        generalize hd ++ namesL (ks.take k) = DS at *
        generalize namesT ks[k] = CT at *
        clear hrow ht hbl hXB
        go_wp2_with fail
        refine hcall.out.mono ?_
        rintro e w2 ⟨a', n', c', rfl, rfl, hC', d2⟩
        have HD2 := Lib.hid (HXB.out.trans (d2.mono HXB.out.size))
        have HB2 := Lib.hid (hb.out.trans (HD2.out.mono hb.out.size))
        have hbz := HB2.out.size
        have HR2 := Lib.hid (hC.out.below HD2.out)
        have HS2 := Lib.hid (src_row hC')
        clear d2 hcall hC' hC hb y0 y1 y2 y3 y4
        go_wp2_with (at_builtin; refine wpList_append_src ?aq1 ?aqs ?aqx 60 ?aq2 w.heap.size 9 i0 (.string ⟨#[]⟩) 1 16 ?aq3 ?aq4 ?aq5 ?aq6 ?aq7 ?aq8 ?aq9 (.slice a DS.length c) DS.length (DS.map encStr) ?aq10 ?aqh1 a' CT.length c' (CT.map encStr) ?aq11 ?aqh2 ?aqh3 ?aqc1 ?aqc2 ?aqc3 ?_; (case aq1 => rfl); (case aq2 => rfl); (case aq10 => rfl); (case aq11 => rfl); (case aqh1 => exact HR2.out); (case aq3 => exact Tryz.underlying60); (case aq4 => exact hi); (case aq5 => exact hz0); (case aq6 => exact hz1); (case aq7 => exact hz2); (case aq8 => rfl); (case aq9 => decide); (case aqh2 => exact HS2.out); (case aqh3 => exact one_map _); (case aqc1 => unfold maxLen; omega); (case aqc2 => omega); (case aqc3 => exact hbz); intro vz wz hownZ hgrowZ hatZ)
        all_goals
          have hRZ : RowU w.heap.size wz vz (DS.length + CT.length) (DS ++ CT) := by unfold RowU; rw [List.map_append]; exact hownZ
          obtain ⟨az, cz, rfl⟩ := hRZ.slice
          have hbN : Below w.heap.size w wz := HB2.out.grown hgrowZ hbz (fun y e => (World.ownsRow.lt HR2.out y e).1)
          have HRZ := Lib.hid hRZ
          have HBN := Lib.hid hbN
          clear hownZ hgrowZ hatZ hRZ hbN HR2 HS2
          go_wp2_with fail
          go_roundw
          case rel => exact ⟨k + 1, az, cz, by omega, by go_num, by rw [HSN.out, List.length_append], by rw [HSN.out, List.length_append]; exact HRZ, HBN⟩
          case measure => simp [intOf]; omega
      · obtain rfl : k = ks.length := by omega
        rw [List.take_length] at hC ⊢
        go_wp2
        go_ret
        exact ⟨a, _, c, rfl, rfl, hC.out, hb.out⟩
theorem namesIC : ∀ (k : Nat) (t : Tr), wT t ≤ k → NamesAtI t
  | 0, .node o n s ks ms, hw => by rw [wT] at hw; omega
  | k + 1, .node o n s ks ms, hw => by
    rw [wT] at hw
    exact namesIN o n s ks ms (fun t ht => namesIC k t (by have := wL_mem ht; omega))
end Go.Proofs.YtemjooejfmkkbaaGreatDoor

namespace Go.Proofs.YtemjooejfmkkbaaGreatDoor
open Go.RowKit
set_option linter.unusedVariables false

structure TE (E : Nat → Nat) (m : Nat) (I : Nat → World → Prop) (S : Nat → World → Value → Prop) (v0 : Value) (M : Value → World → Prop) (k : Nat) (L : Nat → Bool) (f : Nat → Value) (W : World) : Prop where
  inv : L m = false → I k W
  pre : ∀ i, i < m → L i = true → L (E i) = false → L m = false → S i W (f i)
  zero : L (m + 1) = false → f (m + 1) = v0
  mid : L m = true → M (f m) W
  fin : L (m + 1) = true → M (f (m + 1)) W
section
variable {E : Nat → Nat} {m k : Nat} {I : Nat → World → Prop} {S : Nat → World → Value → Prop} {v0 : Value} {M : Value → World → Prop} {L : Nat → Bool} {f : Nat → Value} {W W' : World}
theorem TE.start (h0 : f (m + 1) = v0) (h : I 0 W) : TE E m I S v0 M 0 (fun _ => false) f W := ⟨fun _ => h, fun _ _ a => (by cases a), fun _ => h0, fun a => (by cases a), fun a => (by cases a)⟩
theorem TE.pre_op (h : TE E m I S v0 M k L f W) {i : Nat} {v : Value} (hi : i < m) (hm : L m = false) (hm1 : L (m + 1) = false) (hI : I (k + 1) W') (hS : ∀ j v, L j = true → E j ≠ i → S j W v → S j W' v) (hv : S i W' v) : TE E m I S v0 M (k + 1) (upd L i true) (upd f i v) W' := by
  have u : ∀ {α : Type} (g : Nat → α) (x : α) (j : Nat), m ≤ j → upd g i x j = g j := fun g x j hj => upd_ne g x (by omega)
  refine ⟨fun _ => hI, fun j hj hL hE _ => ?_, ?_, ?_, ?_⟩
  · by_cases e : j = i
    · subst e; rw [upd_self]; exact hv
    · rw [upd_ne _ _ e] at hL ⊢
      by_cases e2 : E j = i
      · rw [e2, upd_self] at hE; cases hE
      · rw [upd_ne _ _ e2] at hE
        exact hS _ _ hL e2 (h.pre j hj hL hE hm)
  · rw [u _ _ _ (by omega), u _ _ _ (by omega)]; exact h.zero
  · rw [u _ _ _ (Nat.le_refl _), hm]; exact fun a => by cases a
  · rw [u _ _ _ (by omega), hm1]; exact fun a => by cases a
theorem TE.app_op (h : TE E m I S v0 M k L f W) {v : Value} (hm1 : L (m + 1) = false) (hM : M v W') : TE E m I S v0 M (k + 1) (upd L m true) (upd f m v) W' := by
  have u : ∀ {α : Type} (g : Nat → α) (x : α) (j : Nat), j ≠ m → upd g m x j = g j := fun g x j hj => upd_ne g x hj
  refine ⟨fun a => (by rw [upd_self] at a; cases a), fun _ _ _ _ a => (by rw [upd_self] at a; cases a), ?_, fun _ => (by rw [upd_self]; exact hM), ?_⟩
  · rw [u _ _ _ (by omega), u _ _ _ (by omega)]; exact h.zero
  · rw [u _ _ _ (by omega), hm1]; exact fun a => by cases a
theorem TE.fin_op (h : TE E m I S v0 M k L f W) {v : Value} (hm : L m = true) (hv : v = f m) : TE E m I S v0 M (k + 1) (upd L (m + 1) true) (upd f (m + 1) v) W := by
  have u : ∀ {α : Type} (g : Nat → α) (x : α) (j : Nat), j ≠ m + 1 → upd g (m + 1) x j = g j := fun g x j hj => upd_ne g x hj
  refine ⟨?_, fun j hj _ _ => ?_, fun a => (by rw [upd_self] at a; cases a), ?_, fun _ => ?_⟩
  · rw [u _ _ _ (by omega), hm]; exact fun a => by cases a
  · rw [u _ _ _ (by omega), hm]; exact fun a => by cases a
  · rw [u _ _ _ (by omega), u _ _ _ (by omega)]; exact h.mid
  · rw [upd_self, hv]; exact h.mid hm
end
end Go.Proofs.YtemjooejfmkkbaaGreatDoor

namespace Go.Proofs.YtemjooejfmkkbaaGreatDoor
open Go.RowKit
set_option linter.unusedVariables false
set_option linter.unusedSimpArgs false

section
variable {E : Nat → Nat} {m k : Nat} {I : Nat → World → Prop} {S : Nat → World → Value → Prop} {v0 : Value} {M : Value → World → Prop} {L : Nat → Bool} {f : Nat → Value} {W W' : World}
theorem TE.pre_op2 (h : TE E m I S v0 M k L f W) {i : Nat} {v : Value} (hi : i < m) (hm : L m = false) (hm1 : L (m + 1) = false) (hI : I (k + 1) W') (hS : ∀ j v, L j = true → L (E j) = false → E j ≠ i → S j W v → S j W' v) (hv : S i W' v) : TE E m I S v0 M (k + 1) (upd L i true) (upd f i v) W' := by
  have u : ∀ {α : Type} (g : Nat → α) (x : α) (j : Nat), m ≤ j → upd g i x j = g j := fun g x j hj => upd_ne g x (by omega)
  refine ⟨fun _ => hI, fun j hj hL hE _ => ?_, ?_, ?_, ?_⟩
  · by_cases e : j = i
    · subst e; rw [upd_self]; exact hv
    · rw [upd_ne _ _ e] at hL ⊢
      by_cases e2 : E j = i
      · rw [e2, upd_self] at hE; cases hE
      · rw [upd_ne _ _ e2] at hE
        exact hS _ _ hL hE e2 (h.pre j hj hL hE hm)
  · rw [u _ _ _ (by omega), u _ _ _ (by omega)]; exact h.zero
  · rw [u _ _ _ (Nat.le_refl _), hm]; exact fun a => by cases a
  · rw [u _ _ _ (by omega), hm1]; exact fun a => by cases a
end
def bsU (u : List UInt8) : ByteArray := ⟨u.toArray⟩
def PutP (l : List (List UInt8)) (w : World) (e : Ending) (w' : World) : Prop := ∃ (g n c : Nat), e = .returned (.slice (some ⟨g, 0, none⟩) n c) ∧ n = l.length ∧ n ≤ c ∧ g < w'.heap.size ∧ Strs w' (some ⟨g, 0, none⟩) n (l.map bsU) ∧ Below w.heap.size w w'
def SPT (g n c k gw : Nat) (l : List (List UInt8)) (s : ByteArray) (ad : Option Addr) (cd : Nat) (i : Nat) (W : World) (v : Value) : Prop := match i with
  | 0 => ∃ ge : Nat, v = .slice (some ⟨ge, 0, none⟩) 0 0 ∧ RowU gw W v 0 []
  | 1 => v = .slice (some ⟨g, 0, none⟩) n c
  | 2 => v = .int .i64 (k : Int)
  | 3 => v = .slice (some ⟨g, 0, none⟩) k c
  | 4 => ∃ (a1 : Option Addr) (c1 : Nat), v = .slice a1 k c1 ∧ RowU gw W v k (l.take k)
  | 5 => v = .string s
  | 6 => ∃ gx : Nat, v = .slice (some ⟨gx, 0, none⟩) 1 1 ∧ W.heap[gx]? = some (.cells #[.string s] 9 (0, 0))
  | 7 => ∃ (a1 : Option Addr) (c1 : Nat), v = .slice a1 (k + 1) c1 ∧ RowU gw W v (k + 1) (l.take k ++ [s.data.toList])
  | 8 => v = .slice (some ⟨g, 0, none⟩) n c
  | 9 => v = .int .i64 (k : Int)
  | 10 => v = .slice ad (n - k) cd
  | _ => True
theorem SPT.kept {g n c k gw : Nat} {l : List (List UInt8)} {s : ByteArray} {ad : Option Addr} {cd i : Nat} {W W' : World} {v : Value} (h : SPT g n c k gw l s ad cd i W v) (hb : Below W.heap.size W W') : SPT g n c k gw l s ad cd i W' v := by
  match i, h with
  | 1, h | 2, h | 3, h | 5, h | 8, h | 9, h | 10, h => exact h
  | 0, ⟨ge, h1, h2⟩ => exact ⟨ge, h1, h2.below hb⟩
  | 4, ⟨a1, c1, h1, h2⟩ => exact ⟨a1, c1, h1, h2.below hb⟩
  | 6, ⟨gx, h1, h2⟩ => exact ⟨gx, h1, (hb.block gx (Array.getElem?_eq_some_iff.1 h2).1).trans h2⟩
  | 7, ⟨a1, c1, h1, h2⟩ => exact ⟨a1, c1, h1, h2.below hb⟩
  | n + 11, _ => exact True.intro
theorem empty_ne {B : Nat} {w : World} {ge gx : Nat} {s : ByteArray} (h : RowU B w (.slice (some ⟨ge, 0, none⟩) 0 0) 0 []) (h2 : w.heap[gx]? = some (.cells #[.string s] 9 (0, 0))) (e : ge = gx) : False := by
  rcases h.2 with ⟨k0, _⟩ | ⟨g', cap', cur, hv', hb', hb, h1, h3, h4, h5⟩
  · cases k0
  · injection hv' with e1 _ e3
    injection e1 with e1
    injection e1 with e1 _ _
    subst e1 e3 e
    rw [h2] at hb
    injection hb with hb
    injection hb with hb _ _
    rw [← hb] at h4
    simp at h4
theorem bsU_list (u : List UInt8) : (bsU u).toList = u := by rw [Lib.toList_data]; rfl
theorem strs_at {w : World} {g n : Nat} {l : List (List UInt8)} (h : Strs w (some ⟨g, 0, none⟩) n (l.map bsU)) {i : Nat} (hi : i < l.length) : w.cell? ⟨g, i, none⟩ = some (.string (bsU l[i])) := by
  obtain ⟨h1, h2⟩ := h
  have hn : l.length = n := by simpa using h1
  rcases h2 with h0 | ⟨b, off, e, hb, hc⟩
  · omega
  · injection e with e
    injection e with e1 e2 _
    subst e1 e2
    have := hc i (by omega)
    rw [Nat.zero_add] at this
    rw [this]
    simp [hi]
theorem row_cap {B : Nat} {w : World} {g n c : Nat} {l : List (List UInt8)} (h : RowU B w (.slice (some ⟨g, 0, none⟩) n c) n l) : n ≤ c := by
  rcases h.2 with ⟨k0, _⟩ | ⟨g', cap', cur, hv', hb', hb, h1, h3, h4, h5⟩
  · cases k0
  · injection hv' with e1 _ e3
    subst e3
    exact h1
theorem row_lies {B : Nat} {w : World} {a : Option Addr} {n c : Nat} {l : List (List UInt8)} (h : RowU B w (.slice a n c) n l) : Strs w a n (l.map bsU) := by
  have hl : l.length = n := by simpa using h.1
  refine ⟨by simpa using hl, ?_⟩
  by_cases h0 : n = 0
  · exact Or.inl h0
  · obtain ⟨g, cap, hv, hbase, hg⟩ := h.form (by omega)
    injection hv with ha _ hc
    subst ha
    refine Or.inr ⟨g, 0, rfl, hg, fun i hi => ?_⟩
    have hr : RowU B w (.slice (some ⟨g, 0, none⟩) n c) n l := h
    rw [Nat.zero_add, World.ownsRow.cellAt hr i (by omega)]
    simp [hl, hi, bsU]
/-- What stands up to a place, and from it. -/
theorem src_h {w : World} {g n c : Nat} {l : List (List UInt8)} (h : Strs w (some ⟨g, 0, none⟩) n (l.map bsU)) (hg : g < w.heap.size) {k : Nat} (hk : k ≤ l.length) : ∀ W, Below w.heap.size w W → Src W (some ⟨g, 0, none⟩) k 1 ((l.take k).map encStr) := by
  intro W hW
  refine ⟨by simp; omega, fun h0 => ⟨_, rfl, fun j u hj => ?_⟩⟩
  have hjl := (List.getElem?_eq_some_iff.1 hj).1
  simp at hjl
  rw [addA, Nat.zero_add, hW.cell (p := ⟨g, j, none⟩) hg, strs_at h (by omega)]
  rw [← hj]
  simp [bsU, show j < k by omega, show j < l.length by omega]
theorem src_l {w : World} {g n c : Nat} {l : List (List UInt8)} (h : Strs w (some ⟨g, 0, none⟩) n (l.map bsU)) (hg : g < w.heap.size) {k : Nat} (hk : k ≤ l.length) (hc : l.length ≤ c) : ∃ (ad : Option Addr) (cd : Nat), sliced (some ⟨g, 0, none⟩) k l.length c 1 = .slice ad (l.length - k) cd ∧ ∀ W, Below w.heap.size w W → Src W ad (l.length - k) 1 ((l.drop k).map encStr) := by
  by_cases h0 : c = k
  · refine ⟨some ⟨g, 0, none⟩, c - k, by simp [sliced, h0], fun W hW => ⟨by simp, fun h1 => by omega⟩⟩
  · refine ⟨some ⟨g, k, none⟩, c - k, by simp [sliced, h0, Addr.add]; try omega, fun W hW => ⟨by simp, fun h1 => ⟨_, rfl, fun j u hj => ?_⟩⟩⟩
    have hjl := (List.getElem?_eq_some_iff.1 hj).1
    simp at hjl
    rw [addA, hW.cell (p := ⟨g, k + j, none⟩) hg, strs_at h (by omega)]
    rw [← hj]
    simp [bsU, show k + j < l.length by omega]
set_option maxRecDepth 100000 in
set_option maxHeartbeats 32000000 in
theorem specPut (g c : Nat) (l : List (List UInt8)) (s : ByteArray) (w : World) (h : Strs w (some ⟨g, 0, none⟩) l.length (l.map bsU)) (hg : g < w.heap.size) (hn : l.length ≤ 1000) (hc : l.length ≤ c) :
    Calls Tryz.prog 165 #[.slice (some ⟨g, 0, none⟩) l.length c, .string s] w (PutP (putU l s.data.toList) w) := by
  obtain ⟨i0, hi, hz0, hz1, hz2⟩ := info_parts infoStr
  have SZ : ∀ {W : World}, (sizeOf (Tryz.prog.elem 60)).run Tryz.prog W = .ok 1 W := fun {W} => by
    have e : Tryz.prog.elem 60 = 9 := by kernel_rfl
    rw [e]; simp [sizeOf, typeInfo, hi, hz1]
  have H := Lib.hid h
  have HG := Lib.hid hg
  clear h
  go_enter Tryz.func165, Tryz.ntmps165
  go_wp2_with fail
  go_loopw [5] (fun vk wr => ∃ k : Nat, k ≤ l.length ∧ vk = .int .i64 k ∧ wr = w ∧ Hid (∀ i, (h : i < k) → (h2 : i < l.length) → l[i] < s.data.toList)) (fun vk _ => l.length - (intOf vk).toNat)
  case atStart => exact ⟨0, Nat.zero_le _, rfl, rfl, fun i hi => by omega⟩
  case round =>
    obtain ⟨k, hk, rfl, rfl, hlow⟩ := hrel
    by_cases hcase : ∃ h : k < l.length, l[k] < s.data.toList
    · obtain ⟨hlt, hls⟩ := hcase
      have c1 := strs_at H.out hlt
      have k1 : (k : Int) < l.length := by omega
      have k0 : (0 : Int) ≤ k := by omega
      have hb : Op.bytesLess (bsU l[k]).toList s.toList = true := by rw [bytesLess_eq, bsU_list, Lib.toList_data]; exact decide_eq_true hls
      have HLS := Lib.hid hls
      clear hls
      generalize bsU l[k] = x at *
      go_wp2
      go_roundw
      case rel => exact ⟨k + 1, by omega, by go_num, (by first | rfl | trivial), fun i hi h2 => by
        by_cases e : i = k
        · subst e; exact HLS.out
        · exact hlow.out i (by omega) h2⟩
      case measure => simp [intOf]; omega
    · have HAT := Lib.hid (putU_at l s.data.toList k hk (fun i a b => hlow.out i a b) (fun a b => hcase ⟨a, b⟩))
      by_cases hlt : k < l.length
      · have c1 := strs_at H.out hlt
        have k1 : (k : Int) < l.length := by omega
        have k0 : (0 : Int) ≤ k := by omega
        have hb : Op.bytesLess (bsU l[k]).toList s.toList = false := by rw [bytesLess_eq, bsU_list, Lib.toList_data]; exact decide_eq_false (fun b => hcase ⟨hlt, b⟩)
        by_cases heq : l[k] = s.data.toList
        · have hq : ((bsU l[k]).toList == s.toList) = true := by rw [bsU_list, Lib.toList_data, heq]; simp
          have HR : Hid (putU l s.data.toList = l) := by refine Lib.hid ?_; rw [HAT.out, if_pos ⟨hlt, heq⟩]
          clear hcase heq hlow
          generalize bsU l[k] = x at *
          go_wp2
          go_ret
          exact ⟨g, _, c, rfl, by rw [HR.out], hc, HG.out, by rw [HR.out]; exact H.out, Below.refl _ _⟩
        · have hq : ((bsU l[k]).toList == s.toList) = false := by rw [bsU_list, Lib.toList_data]; simpa using heq
          have HR : Hid (putU l s.data.toList = l.take k ++ s.data.toList :: l.drop k) := by refine Lib.hid ?_; rw [HAT.out, if_neg (by rintro ⟨_, h⟩; exact heq h)]
          clear hcase heq hlow
          generalize bsU l[k] = x at *
          obtain ⟨ad, cd, hsl, hsr2⟩ := src_l (c := c) H.out HG.out hk hc
          have HSL := Lib.hid hsl
          have SR2 := Lib.hid hsr2
          have SR1 := Lib.hid (src_h (c := c) H.out HG.out hk)
          have HSH : Hid (sliced (some ⟨g, 0, none⟩) 0 k c 1 = .slice (some ⟨g, 0, none⟩) k c) := by refine Lib.hid ?_; simp [sliced, Addr.add]
          clear hsl hsr2
          go_upto_region 6 with fail
          generalize wr = wy at *
          refine wp_region_invK (by kernel_rfl) (fun kk L f W => TE (fun i => if i = 0 then 4 else if i = 4 then 7 else if i = 6 then 7 else 11) 11 (fun _ W => Below wy.heap.size wy W) (SPT g l.length c k wy.heap.size l s ad cd) (.slice none 0 0) (fun v W => RowU wy.heap.size W v (l.length + 1) (l.take k ++ s.data.toList :: l.drop k) ∧ Below wy.heap.size wy W) kk L f W) (by kernel_rfl) (TE.start rfl ((Below.refl _ _).drew)) ?_
          apply Exists.intro
          apply And.intro
          · intro f
            simp only [over, List.set]
            exact rfl
          refine ⟨?hops, ?hend⟩
          case hops =>
            refine EachOp.cons ?_ (EachOp.cons ?_ (EachOp.cons ?_ (EachOp.cons ?_ (EachOp.cons ?_ (EachOp.cons ?_ (EachOp.cons ?_ (EachOp.cons ?_ (EachOp.cons ?_ (EachOp.cons ?_ (EachOp.cons ?_ (EachOp.cons ?_ (EachOp.cons ?_ EachOp.nil))))))))))))
            · intro L ff kk ww hkk hJ hcl hLi hwt QQ' hQ
              try dsimp only
              have nm : L 11 = false := by
                cases hx : L 11 with
                | false => rfl
                | true =>
                  have h11x := hx
                  have h7x : L 7 = true := hcl 11 _ rfl h11x 7 (by decide)
                  have h4x : L 4 = true := hcl 7 _ rfl h7x 4 (by decide)
                  have h0x : L 0 = true := hcl 4 _ rfl h4x 0 (by decide)
                  have h2 : L 0 = false := hLi
                  rw [h0x] at h2; cases h2
              have nm1 : L 12 = false := by
                cases hx : L 12 with
                | false => rfl
                | true =>
                  have h12x := hx
                  have h11x : L 11 = true := hcl 12 _ rfl h12x 11 (by decide)
                  have h7x : L 7 = true := hcl 11 _ rfl h11x 7 (by decide)
                  have h4x : L 4 = true := hcl 7 _ rfl h7x 4 (by decide)
                  have h0x : L 0 = true := hcl 4 _ rfl h4x 0 (by decide)
                  have h2 : L 0 = false := hLi
                  rw [h0x] at h2; cases h2
              have hI := hJ.inv nm
              go_big_wp2_with fail
              refine hQ _ _ (ww.alloc (.cells #[] 9)) ?_ (hJ.pre_op2 (i := 0) (by decide) nm nm1 (hI.alloc hI.size _) (fun j v _ _ _ h => h.kept ((Below.refl _ _).alloc (Nat.le_refl _) _)) ⟨ww.heap.size, rfl, World.ownsRow_made ww #[] 0 hI.size (by unfold maxLen; omega) rfl⟩)
              first | rfl | (simp [upd]; done)
            · intro L ff kk ww hkk hJ hcl hLi hwt QQ' hQ
              try dsimp only
              have nm : L 11 = false := by
                cases hx : L 11 with
                | false => rfl
                | true =>
                  have h11x := hx
                  have h7x : L 7 = true := hcl 11 _ rfl h11x 7 (by decide)
                  have h4x : L 4 = true := hcl 7 _ rfl h7x 4 (by decide)
                  have h3x : L 3 = true := hcl 4 _ rfl h4x 3 (by decide)
                  have h1x : L 1 = true := hcl 3 _ rfl h3x 1 (by decide)
                  have h2 : L 1 = false := hLi
                  rw [h1x] at h2; cases h2
              have nm1 : L 12 = false := by
                cases hx : L 12 with
                | false => rfl
                | true =>
                  have h12x := hx
                  have h11x : L 11 = true := hcl 12 _ rfl h12x 11 (by decide)
                  have h7x : L 7 = true := hcl 11 _ rfl h11x 7 (by decide)
                  have h4x : L 4 = true := hcl 7 _ rfl h7x 4 (by decide)
                  have h3x : L 3 = true := hcl 4 _ rfl h4x 3 (by decide)
                  have h1x : L 1 = true := hcl 3 _ rfl h3x 1 (by decide)
                  have h2 : L 1 = false := hLi
                  rw [h1x] at h2; cases h2
              have hI := hJ.inv nm
              go_big_wp2_with fail
              refine hQ _ _ _ ?_ (hJ.pre_op2 (i := 1) (by decide) nm nm1 hI (fun j v _ _ _ h => h.kept (Below.refl _ _)) (rfl))
              first | rfl | (simp [upd]; done)
            · intro L ff kk ww hkk hJ hcl hLi hwt QQ' hQ
              try dsimp only
              have nm : L 11 = false := by
                cases hx : L 11 with
                | false => rfl
                | true =>
                  have h11x := hx
                  have h7x : L 7 = true := hcl 11 _ rfl h11x 7 (by decide)
                  have h4x : L 4 = true := hcl 7 _ rfl h7x 4 (by decide)
                  have h3x : L 3 = true := hcl 4 _ rfl h4x 3 (by decide)
                  have h2x : L 2 = true := hcl 3 _ rfl h3x 2 (by decide)
                  have h2 : L 2 = false := hLi
                  rw [h2x] at h2; cases h2
              have nm1 : L 12 = false := by
                cases hx : L 12 with
                | false => rfl
                | true =>
                  have h12x := hx
                  have h11x : L 11 = true := hcl 12 _ rfl h12x 11 (by decide)
                  have h7x : L 7 = true := hcl 11 _ rfl h11x 7 (by decide)
                  have h4x : L 4 = true := hcl 7 _ rfl h7x 4 (by decide)
                  have h3x : L 3 = true := hcl 4 _ rfl h4x 3 (by decide)
                  have h2x : L 2 = true := hcl 3 _ rfl h3x 2 (by decide)
                  have h2 : L 2 = false := hLi
                  rw [h2x] at h2; cases h2
              have hI := hJ.inv nm
              go_big_wp2_with fail
              refine hQ _ _ _ ?_ (hJ.pre_op2 (i := 2) (by decide) nm nm1 hI (fun j v _ _ _ h => h.kept (Below.refl _ _)) (rfl))
              first | rfl | (simp [upd]; done)
            · intro L ff kk ww hkk hJ hcl hLi hwt QQ' hQ
              try dsimp only
              have nm : L 11 = false := by
                cases hx : L 11 with
                | false => rfl
                | true =>
                  have h11x := hx
                  have h7x : L 7 = true := hcl 11 _ rfl h11x 7 (by decide)
                  have h4x : L 4 = true := hcl 7 _ rfl h7x 4 (by decide)
                  have h3x : L 3 = true := hcl 4 _ rfl h4x 3 (by decide)
                  have h2 : L 3 = false := hLi
                  rw [h3x] at h2; cases h2
              have nm1 : L 12 = false := by
                cases hx : L 12 with
                | false => rfl
                | true =>
                  have h12x := hx
                  have h11x : L 11 = true := hcl 12 _ rfl h12x 11 (by decide)
                  have h7x : L 7 = true := hcl 11 _ rfl h11x 7 (by decide)
                  have h4x : L 4 = true := hcl 7 _ rfl h7x 4 (by decide)
                  have h3x : L 3 = true := hcl 4 _ rfl h4x 3 (by decide)
                  have h2 : L 3 = false := hLi
                  rw [h3x] at h2; cases h2
              have hI := hJ.inv nm
              have c1' : ff 1 = .slice (some ⟨g, 0, none⟩) l.length c := hJ.pre 1 (by decide) (hwt 1 (by decide)) nm nm
              have c2' : ff 2 = .int .i64 (k : Int) := hJ.pre 2 (by decide) (hwt 2 (by decide)) nm nm
              refine wpList_slice_h rfl 60 _ _ rfl (by kernel_rfl) _ _ _ k 1 c1' c2' (by omega) SZ _ HSH.out.symm ?_
              simp only [Act.put, List.setIfInBounds_toArray, List.set_cons_succ, List.set_cons_zero]
              exact hQ _ _ _ rfl (hJ.pre_op2 (i := 3) (by decide) nm nm1 hI (fun j v _ _ _ h => h.kept (Below.refl _ _)) rfl)
            · intro L ff kk ww hkk hJ hcl hLi hwt QQ' hQ
              try dsimp only
              have nm : L 11 = false := by
                cases hx : L 11 with
                | false => rfl
                | true =>
                  have h11x := hx
                  have h7x : L 7 = true := hcl 11 _ rfl h11x 7 (by decide)
                  have h4x : L 4 = true := hcl 7 _ rfl h7x 4 (by decide)
                  have h2 : L 4 = false := hLi
                  rw [h4x] at h2; cases h2
              have nm1 : L 12 = false := by
                cases hx : L 12 with
                | false => rfl
                | true =>
                  have h12x := hx
                  have h11x : L 11 = true := hcl 12 _ rfl h12x 11 (by decide)
                  have h7x : L 7 = true := hcl 11 _ rfl h11x 7 (by decide)
                  have h4x : L 4 = true := hcl 7 _ rfl h7x 4 (by decide)
                  have h2 : L 4 = false := hLi
                  rw [h4x] at h2; cases h2
              have hI := hJ.inv nm
              have n7 : L 7 = false := by
                cases hx : L 7 with
                | false => rfl
                | true =>
                  have h7x := hx
                  have h4x : L 4 = true := hcl 7 _ rfl h7x 4 (by decide)
                  have h2 : L 4 = false := hLi
                  rw [h4x] at h2; cases h2
              have n4 : L 4 = false := hLi
              have c3' : ff 3 = .slice (some ⟨g, 0, none⟩) k c := hJ.pre 3 (by decide) (hwt 3 (by decide)) nm nm
              obtain ⟨ge, cl, hO⟩ := hJ.pre 0 (by decide) (hwt 0 (by decide)) n4 nm
              have cl' : ff 0 = _ := cl
              rw [cl] at hO
              refine wpList_append_src rfl _ _ 60 rfl wy.heap.size 9 i0 (.string ⟨#[]⟩) 1 16 Tryz.underlying60 hi hz0 hz1 hz2 rfl (by decide) (.slice (some ⟨ge, 0, none⟩) 0 0) 0 [] cl' hO (some ⟨g, 0, none⟩) k c ((l.take k).map encStr) c3' (SR1.out _ hI) (one_map _) (by unfold maxLen; omega) (by omega) hI.size ?_
              intro v' wz ho hg hat
              rw [Nat.zero_add k, List.nil_append] at ho
              simp only [Act.put, List.setIfInBounds_toArray, List.set_cons_succ, List.set_cons_zero]
              have hbz : Below wy.heap.size wy wz := hI.grown hg hI.size (fun y e => (hO.lt y e).1)
              have hR : RowU wy.heap.size wz v' k (l.take k) := ho
              obtain ⟨a1, c1, rfl⟩ := hR.slice
              refine hQ _ _ wz rfl (hJ.pre_op2 (i := 4) (by decide) nm nm1 hbz (fun j v hL hE0 hE h => by
                    match j, h with
                    | 1, h | 2, h | 3, h | 5, h | 8, h | 9, h | 10, h => exact h
                    | 0, _ => exact absurd rfl hE
                    | 4, _ => exact absurd (hL.symm.trans n4) (by decide)
                    | 6, ⟨gx, e1, e2⟩ => exact ⟨gx, e1, (hg.block gx (Array.getElem?_eq_some_iff.1 e2).1 (fun e => empty_ne hO e2 (by have := e; simp [Value.ownBlock] at this; omega))).trans e2⟩
                    | 7, _ => exact absurd (hL.symm.trans n7) (by decide)
                    | n + 11, _ => exact True.intro) ⟨a1, c1, rfl, hR⟩)
            · intro L ff kk ww hkk hJ hcl hLi hwt QQ' hQ
              try dsimp only
              have nm : L 11 = false := by
                cases hx : L 11 with
                | false => rfl
                | true =>
                  have h11x := hx
                  have h7x : L 7 = true := hcl 11 _ rfl h11x 7 (by decide)
                  have h6x : L 6 = true := hcl 7 _ rfl h7x 6 (by decide)
                  have h5x : L 5 = true := hcl 6 _ rfl h6x 5 (by decide)
                  have h2 : L 5 = false := hLi
                  rw [h5x] at h2; cases h2
              have nm1 : L 12 = false := by
                cases hx : L 12 with
                | false => rfl
                | true =>
                  have h12x := hx
                  have h11x : L 11 = true := hcl 12 _ rfl h12x 11 (by decide)
                  have h7x : L 7 = true := hcl 11 _ rfl h11x 7 (by decide)
                  have h6x : L 6 = true := hcl 7 _ rfl h7x 6 (by decide)
                  have h5x : L 5 = true := hcl 6 _ rfl h6x 5 (by decide)
                  have h2 : L 5 = false := hLi
                  rw [h5x] at h2; cases h2
              have hI := hJ.inv nm
              go_big_wp2_with fail
              refine hQ _ _ _ ?_ (hJ.pre_op2 (i := 5) (by decide) nm nm1 hI (fun j v _ _ _ h => h.kept (Below.refl _ _)) (rfl))
              first | rfl | (simp [upd]; done)
            · intro L ff kk ww hkk hJ hcl hLi hwt QQ' hQ
              try dsimp only
              have nm : L 11 = false := by
                cases hx : L 11 with
                | false => rfl
                | true =>
                  have h11x := hx
                  have h7x : L 7 = true := hcl 11 _ rfl h11x 7 (by decide)
                  have h6x : L 6 = true := hcl 7 _ rfl h7x 6 (by decide)
                  have h2 : L 6 = false := hLi
                  rw [h6x] at h2; cases h2
              have nm1 : L 12 = false := by
                cases hx : L 12 with
                | false => rfl
                | true =>
                  have h12x := hx
                  have h11x : L 11 = true := hcl 12 _ rfl h12x 11 (by decide)
                  have h7x : L 7 = true := hcl 11 _ rfl h11x 7 (by decide)
                  have h6x : L 6 = true := hcl 7 _ rfl h7x 6 (by decide)
                  have h2 : L 6 = false := hLi
                  rw [h6x] at h2; cases h2
              have hI := hJ.inv nm
              have c5' : ff 5 = .string s := hJ.pre 5 (by decide) (hwt 5 (by decide)) nm nm
              rw [c5']
              go_big_wp2_with fail
              refine hQ _ _ (ww.alloc (.cells #[.string s] 9)) ?_ (hJ.pre_op2 (i := 6) (by decide) nm nm1 (hI.alloc hI.size _) (fun j v _ _ _ h => h.kept ((Below.refl _ _).alloc (Nat.le_refl _) _)) ⟨ww.heap.size, rfl, heap_alloc_new ww _⟩)
              first | rfl | (simp [upd, c5']; done)
            · intro L ff kk ww hkk hJ hcl hLi hwt QQ' hQ
              try dsimp only
              have nm : L 11 = false := by
                cases hx : L 11 with
                | false => rfl
                | true =>
                  have h11x := hx
                  have h7x : L 7 = true := hcl 11 _ rfl h11x 7 (by decide)
                  have h2 : L 7 = false := hLi
                  rw [h7x] at h2; cases h2
              have nm1 : L 12 = false := by
                cases hx : L 12 with
                | false => rfl
                | true =>
                  have h12x := hx
                  have h11x : L 11 = true := hcl 12 _ rfl h12x 11 (by decide)
                  have h7x : L 7 = true := hcl 11 _ rfl h11x 7 (by decide)
                  have h2 : L 7 = false := hLi
                  rw [h7x] at h2; cases h2
              have hI := hJ.inv nm
              have n7 : L 7 = false := hLi
              have y4 : L 4 = true := hwt 4 (by decide)
              have y6 : L 6 = true := hwt 6 (by decide)
              obtain ⟨a1, c1, cl, hO⟩ := hJ.pre 4 (by decide) y4 n7 nm
              obtain ⟨gx, e1, e2⟩ := hJ.pre 6 (by decide) y6 n7 nm
              have cl' : ff 4 = _ := cl
              have e1' : ff 6 = _ := e1
              rw [cl] at hO
              refine wpList_append_src rfl _ _ 60 rfl wy.heap.size 9 i0 (.string ⟨#[]⟩) 1 16 Tryz.underlying60 hi hz0 hz1 hz2 rfl (by decide) (.slice a1 k c1) k ((l.take k).map encStr) cl' hO (some ⟨gx, 0, none⟩) 1 1 [.string s] e1' (src_one e2) (by intro u hu; simp at hu; subst hu; rfl) (by unfold maxLen; omega) (by omega) hI.size ?_
              intro v' wz ho hg hat
              simp only [Act.put, List.setIfInBounds_toArray, List.set_cons_succ, List.set_cons_zero]
              have hbz : Below wy.heap.size wy wz := hI.grown hg hI.size (fun y e => (World.ownsRow.lt hO y e).1)
              have hR : RowU wy.heap.size wz v' (k + 1) (l.take k ++ [s.data.toList]) := by unfold RowU; rw [List.map_append]; exact ho
              obtain ⟨a2, c2, rfl⟩ := hR.slice
              refine hQ _ _ wz rfl (hJ.pre_op2 (i := 7) (by decide) nm nm1 hbz (fun j v hL hE0 hE h => by
                    match j, h with
                    | 1, h | 2, h | 3, h | 5, h | 8, h | 9, h | 10, h => exact h
                    | 0, _ => exact absurd (y4.symm.trans hE0) (by decide)
                    | 4, _ => exact absurd rfl hE
                    | 6, _ => exact absurd rfl hE
                    | 7, _ => exact absurd (hL.symm.trans n7) (by decide)
                    | n + 11, _ => exact True.intro) ⟨a2, c2, rfl, hR⟩)
            · intro L ff kk ww hkk hJ hcl hLi hwt QQ' hQ
              try dsimp only
              have nm : L 11 = false := by
                cases hx : L 11 with
                | false => rfl
                | true =>
                  have h11x := hx
                  have h10x : L 10 = true := hcl 11 _ rfl h11x 10 (by decide)
                  have h8x : L 8 = true := hcl 10 _ rfl h10x 8 (by decide)
                  have h2 : L 8 = false := hLi
                  rw [h8x] at h2; cases h2
              have nm1 : L 12 = false := by
                cases hx : L 12 with
                | false => rfl
                | true =>
                  have h12x := hx
                  have h11x : L 11 = true := hcl 12 _ rfl h12x 11 (by decide)
                  have h10x : L 10 = true := hcl 11 _ rfl h11x 10 (by decide)
                  have h8x : L 8 = true := hcl 10 _ rfl h10x 8 (by decide)
                  have h2 : L 8 = false := hLi
                  rw [h8x] at h2; cases h2
              have hI := hJ.inv nm
              go_big_wp2_with fail
              refine hQ _ _ _ ?_ (hJ.pre_op2 (i := 8) (by decide) nm nm1 hI (fun j v _ _ _ h => h.kept (Below.refl _ _)) (rfl))
              first | rfl | (simp [upd]; done)
            · intro L ff kk ww hkk hJ hcl hLi hwt QQ' hQ
              try dsimp only
              have nm : L 11 = false := by
                cases hx : L 11 with
                | false => rfl
                | true =>
                  have h11x := hx
                  have h10x : L 10 = true := hcl 11 _ rfl h11x 10 (by decide)
                  have h9x : L 9 = true := hcl 10 _ rfl h10x 9 (by decide)
                  have h2 : L 9 = false := hLi
                  rw [h9x] at h2; cases h2
              have nm1 : L 12 = false := by
                cases hx : L 12 with
                | false => rfl
                | true =>
                  have h12x := hx
                  have h11x : L 11 = true := hcl 12 _ rfl h12x 11 (by decide)
                  have h10x : L 10 = true := hcl 11 _ rfl h11x 10 (by decide)
                  have h9x : L 9 = true := hcl 10 _ rfl h10x 9 (by decide)
                  have h2 : L 9 = false := hLi
                  rw [h9x] at h2; cases h2
              have hI := hJ.inv nm
              go_big_wp2_with fail
              refine hQ _ _ _ ?_ (hJ.pre_op2 (i := 9) (by decide) nm nm1 hI (fun j v _ _ _ h => h.kept (Below.refl _ _)) (rfl))
              first | rfl | (simp [upd]; done)
            · intro L ff kk ww hkk hJ hcl hLi hwt QQ' hQ
              try dsimp only
              have nm : L 11 = false := by
                cases hx : L 11 with
                | false => rfl
                | true =>
                  have h11x := hx
                  have h10x : L 10 = true := hcl 11 _ rfl h11x 10 (by decide)
                  have h2 : L 10 = false := hLi
                  rw [h10x] at h2; cases h2
              have nm1 : L 12 = false := by
                cases hx : L 12 with
                | false => rfl
                | true =>
                  have h12x := hx
                  have h11x : L 11 = true := hcl 12 _ rfl h12x 11 (by decide)
                  have h10x : L 10 = true := hcl 11 _ rfl h11x 10 (by decide)
                  have h2 : L 10 = false := hLi
                  rw [h10x] at h2; cases h2
              have hI := hJ.inv nm
              have c8' : ff 8 = .slice (some ⟨g, 0, none⟩) l.length c := hJ.pre 8 (by decide) (hwt 8 (by decide)) nm nm
              have c9' : ff 9 = .int .i64 (k : Int) := hJ.pre 9 (by decide) (hwt 9 (by decide)) nm nm
              refine wpList_slice_l rfl 60 _ _ rfl (by kernel_rfl) _ _ _ k 1 c8' c9' (by omega) SZ _ HSL.out.symm ?_
              simp only [Act.put, List.setIfInBounds_toArray, List.set_cons_succ, List.set_cons_zero]
              exact hQ _ _ _ rfl (hJ.pre_op2 (i := 10) (by decide) nm nm1 hI (fun j v _ _ _ h => h.kept (Below.refl _ _)) rfl)
            · intro L ff kk ww hkk hJ hcl hLi hwt QQ' hQ
              try dsimp only
              have nm : L 11 = false := hLi
              have nm1 : L 12 = false := by
                cases hx : L 12 with
                | false => rfl
                | true =>
                  have h12x := hx
                  have h11x : L 11 = true := hcl 12 _ rfl h12x 11 (by decide)
                  have h2 : L 11 = false := hLi
                  rw [h11x] at h2; cases h2
              have hI := hJ.inv nm
              have y7 : L 7 = true := hwt 7 (by decide)
              obtain ⟨a1, c1, cl, hO⟩ := hJ.pre 7 (by decide) y7 nm nm
              have cl' : ff 7 = _ := cl
              have c10' : ff 10 = .slice ad (l.length - k) cd := hJ.pre 10 (by decide) (hwt 10 (by decide)) nm nm
              rw [cl] at hO
              refine wpList_append_src rfl _ _ 60 rfl wy.heap.size 9 i0 (.string ⟨#[]⟩) 1 16 Tryz.underlying60 hi hz0 hz1 hz2 rfl (by decide) (.slice a1 (k + 1) c1) (k + 1) ((l.take k ++ [s.data.toList]).map encStr) cl' hO ad (l.length - k) cd ((l.drop k).map encStr) c10' (SR2.out _ hI) (one_map _) (by unfold maxLen; omega) (by omega) hI.size ?_
              intro v' wz ho hg hat
              simp only [Act.put, List.setIfInBounds_toArray, List.set_cons_succ, List.set_cons_zero]
              have hbz : Below wy.heap.size wy wz := hI.grown hg hI.size (fun y e => (World.ownsRow.lt hO y e).1)
              have hR : RowU wy.heap.size wz v' (l.length + 1) (l.take k ++ s.data.toList :: l.drop k) := by
                unfold RowU
                rw [show l.length + 1 = k + 1 + (l.length - k) by omega, show l.take k ++ s.data.toList :: l.drop k = l.take k ++ [s.data.toList] ++ l.drop k by simp, List.map_append]
                exact ho
              refine hQ _ _ wz rfl (hJ.app_op nm1 ⟨hR, hbz⟩)
            · intro L ff kk ww hkk hJ hcl hLi hwt QQ' hQ
              try dsimp only
              have hm : L 11 = true := hwt 11 (by decide)
              go_big_wp2_with fail
              refine hQ _ _ _ ?_ (hJ.fin_op hm rfl)
              first | rfl | (simp [upd]; done)
          case hend =>
            intro L ff kk w9 hkb hL hJ
            try dsimp only
            obtain ⟨hR9, hb9⟩ := hJ.fin (hL 12 (by decide))
            clear hJ hL
            obtain ⟨g9, c9, e9, hb, hgs⟩ := hR9.form (by simp)
            have H9 := Lib.hid hR9
            have B9 := Lib.hid hb9
            clear hR9 hb9
            rw [e9] at H9 ⊢
            clear e9
            go_wp2
            go_ret
            exact ⟨g9, _, c9, rfl, by rw [HR.out]; simp; omega, row_cap H9.out, hgs, by rw [HR.out]; exact row_lies H9.out, B9.out⟩
      · have k1 : decide ((k : Int) < l.length) = false := decide_eq_false (by omega)
        have k0 : (0 : Int) ≤ k := by omega
        have HR : Hid (putU l s.data.toList = l.take k ++ s.data.toList :: l.drop k) := by refine Lib.hid ?_; rw [HAT.out, if_neg (by rintro ⟨h, _⟩; exact hlt h)]
        clear hcase hlow
        obtain ⟨ad, cd, hsl, hsr2⟩ := src_l (c := c) H.out HG.out hk hc
        have HSL := Lib.hid hsl
        have SR2 := Lib.hid hsr2
        have SR1 := Lib.hid (src_h (c := c) H.out HG.out hk)
        have HSH : Hid (sliced (some ⟨g, 0, none⟩) 0 k c 1 = .slice (some ⟨g, 0, none⟩) k c) := by refine Lib.hid ?_; simp [sliced, Addr.add]
        clear hsl hsr2
        go_upto_region 6 with fail
        generalize wr = wy at *
        refine wp_region_invK (by kernel_rfl) (fun kk L f W => TE (fun i => if i = 0 then 4 else if i = 4 then 7 else if i = 6 then 7 else 11) 11 (fun _ W => Below wy.heap.size wy W) (SPT g l.length c k wy.heap.size l s ad cd) (.slice none 0 0) (fun v W => RowU wy.heap.size W v (l.length + 1) (l.take k ++ s.data.toList :: l.drop k) ∧ Below wy.heap.size wy W) kk L f W) (by kernel_rfl) (TE.start rfl ((Below.refl _ _).drew)) ?_
        apply Exists.intro
        apply And.intro
        · intro f
          simp only [over, List.set]
          exact rfl
        refine ⟨?hops, ?hend⟩
        case hops =>
          refine EachOp.cons ?_ (EachOp.cons ?_ (EachOp.cons ?_ (EachOp.cons ?_ (EachOp.cons ?_ (EachOp.cons ?_ (EachOp.cons ?_ (EachOp.cons ?_ (EachOp.cons ?_ (EachOp.cons ?_ (EachOp.cons ?_ (EachOp.cons ?_ (EachOp.cons ?_ EachOp.nil))))))))))))
          · intro L ff kk ww hkk hJ hcl hLi hwt QQ' hQ
            try dsimp only
            have nm : L 11 = false := by
              cases hx : L 11 with
              | false => rfl
              | true =>
                have h11x := hx
                have h7x : L 7 = true := hcl 11 _ rfl h11x 7 (by decide)
                have h4x : L 4 = true := hcl 7 _ rfl h7x 4 (by decide)
                have h0x : L 0 = true := hcl 4 _ rfl h4x 0 (by decide)
                have h2 : L 0 = false := hLi
                rw [h0x] at h2; cases h2
            have nm1 : L 12 = false := by
              cases hx : L 12 with
              | false => rfl
              | true =>
                have h12x := hx
                have h11x : L 11 = true := hcl 12 _ rfl h12x 11 (by decide)
                have h7x : L 7 = true := hcl 11 _ rfl h11x 7 (by decide)
                have h4x : L 4 = true := hcl 7 _ rfl h7x 4 (by decide)
                have h0x : L 0 = true := hcl 4 _ rfl h4x 0 (by decide)
                have h2 : L 0 = false := hLi
                rw [h0x] at h2; cases h2
            have hI := hJ.inv nm
            go_big_wp2_with fail
            refine hQ _ _ (ww.alloc (.cells #[] 9)) ?_ (hJ.pre_op2 (i := 0) (by decide) nm nm1 (hI.alloc hI.size _) (fun j v _ _ _ h => h.kept ((Below.refl _ _).alloc (Nat.le_refl _) _)) ⟨ww.heap.size, rfl, World.ownsRow_made ww #[] 0 hI.size (by unfold maxLen; omega) rfl⟩)
            first | rfl | (simp [upd]; done)
          · intro L ff kk ww hkk hJ hcl hLi hwt QQ' hQ
            try dsimp only
            have nm : L 11 = false := by
              cases hx : L 11 with
              | false => rfl
              | true =>
                have h11x := hx
                have h7x : L 7 = true := hcl 11 _ rfl h11x 7 (by decide)
                have h4x : L 4 = true := hcl 7 _ rfl h7x 4 (by decide)
                have h3x : L 3 = true := hcl 4 _ rfl h4x 3 (by decide)
                have h1x : L 1 = true := hcl 3 _ rfl h3x 1 (by decide)
                have h2 : L 1 = false := hLi
                rw [h1x] at h2; cases h2
            have nm1 : L 12 = false := by
              cases hx : L 12 with
              | false => rfl
              | true =>
                have h12x := hx
                have h11x : L 11 = true := hcl 12 _ rfl h12x 11 (by decide)
                have h7x : L 7 = true := hcl 11 _ rfl h11x 7 (by decide)
                have h4x : L 4 = true := hcl 7 _ rfl h7x 4 (by decide)
                have h3x : L 3 = true := hcl 4 _ rfl h4x 3 (by decide)
                have h1x : L 1 = true := hcl 3 _ rfl h3x 1 (by decide)
                have h2 : L 1 = false := hLi
                rw [h1x] at h2; cases h2
            have hI := hJ.inv nm
            go_big_wp2_with fail
            refine hQ _ _ _ ?_ (hJ.pre_op2 (i := 1) (by decide) nm nm1 hI (fun j v _ _ _ h => h.kept (Below.refl _ _)) (rfl))
            first | rfl | (simp [upd]; done)
          · intro L ff kk ww hkk hJ hcl hLi hwt QQ' hQ
            try dsimp only
            have nm : L 11 = false := by
              cases hx : L 11 with
              | false => rfl
              | true =>
                have h11x := hx
                have h7x : L 7 = true := hcl 11 _ rfl h11x 7 (by decide)
                have h4x : L 4 = true := hcl 7 _ rfl h7x 4 (by decide)
                have h3x : L 3 = true := hcl 4 _ rfl h4x 3 (by decide)
                have h2x : L 2 = true := hcl 3 _ rfl h3x 2 (by decide)
                have h2 : L 2 = false := hLi
                rw [h2x] at h2; cases h2
            have nm1 : L 12 = false := by
              cases hx : L 12 with
              | false => rfl
              | true =>
                have h12x := hx
                have h11x : L 11 = true := hcl 12 _ rfl h12x 11 (by decide)
                have h7x : L 7 = true := hcl 11 _ rfl h11x 7 (by decide)
                have h4x : L 4 = true := hcl 7 _ rfl h7x 4 (by decide)
                have h3x : L 3 = true := hcl 4 _ rfl h4x 3 (by decide)
                have h2x : L 2 = true := hcl 3 _ rfl h3x 2 (by decide)
                have h2 : L 2 = false := hLi
                rw [h2x] at h2; cases h2
            have hI := hJ.inv nm
            go_big_wp2_with fail
            refine hQ _ _ _ ?_ (hJ.pre_op2 (i := 2) (by decide) nm nm1 hI (fun j v _ _ _ h => h.kept (Below.refl _ _)) (rfl))
            first | rfl | (simp [upd]; done)
          · intro L ff kk ww hkk hJ hcl hLi hwt QQ' hQ
            try dsimp only
            have nm : L 11 = false := by
              cases hx : L 11 with
              | false => rfl
              | true =>
                have h11x := hx
                have h7x : L 7 = true := hcl 11 _ rfl h11x 7 (by decide)
                have h4x : L 4 = true := hcl 7 _ rfl h7x 4 (by decide)
                have h3x : L 3 = true := hcl 4 _ rfl h4x 3 (by decide)
                have h2 : L 3 = false := hLi
                rw [h3x] at h2; cases h2
            have nm1 : L 12 = false := by
              cases hx : L 12 with
              | false => rfl
              | true =>
                have h12x := hx
                have h11x : L 11 = true := hcl 12 _ rfl h12x 11 (by decide)
                have h7x : L 7 = true := hcl 11 _ rfl h11x 7 (by decide)
                have h4x : L 4 = true := hcl 7 _ rfl h7x 4 (by decide)
                have h3x : L 3 = true := hcl 4 _ rfl h4x 3 (by decide)
                have h2 : L 3 = false := hLi
                rw [h3x] at h2; cases h2
            have hI := hJ.inv nm
            have c1' : ff 1 = .slice (some ⟨g, 0, none⟩) l.length c := hJ.pre 1 (by decide) (hwt 1 (by decide)) nm nm
            have c2' : ff 2 = .int .i64 (k : Int) := hJ.pre 2 (by decide) (hwt 2 (by decide)) nm nm
            refine wpList_slice_h rfl 60 _ _ rfl (by kernel_rfl) _ _ _ k 1 c1' c2' (by omega) SZ _ HSH.out.symm ?_
            simp only [Act.put, List.setIfInBounds_toArray, List.set_cons_succ, List.set_cons_zero]
            exact hQ _ _ _ rfl (hJ.pre_op2 (i := 3) (by decide) nm nm1 hI (fun j v _ _ _ h => h.kept (Below.refl _ _)) rfl)
          · intro L ff kk ww hkk hJ hcl hLi hwt QQ' hQ
            try dsimp only
            have nm : L 11 = false := by
              cases hx : L 11 with
              | false => rfl
              | true =>
                have h11x := hx
                have h7x : L 7 = true := hcl 11 _ rfl h11x 7 (by decide)
                have h4x : L 4 = true := hcl 7 _ rfl h7x 4 (by decide)
                have h2 : L 4 = false := hLi
                rw [h4x] at h2; cases h2
            have nm1 : L 12 = false := by
              cases hx : L 12 with
              | false => rfl
              | true =>
                have h12x := hx
                have h11x : L 11 = true := hcl 12 _ rfl h12x 11 (by decide)
                have h7x : L 7 = true := hcl 11 _ rfl h11x 7 (by decide)
                have h4x : L 4 = true := hcl 7 _ rfl h7x 4 (by decide)
                have h2 : L 4 = false := hLi
                rw [h4x] at h2; cases h2
            have hI := hJ.inv nm
            have n7 : L 7 = false := by
              cases hx : L 7 with
              | false => rfl
              | true =>
                have h7x := hx
                have h4x : L 4 = true := hcl 7 _ rfl h7x 4 (by decide)
                have h2 : L 4 = false := hLi
                rw [h4x] at h2; cases h2
            have n4 : L 4 = false := hLi
            have c3' : ff 3 = .slice (some ⟨g, 0, none⟩) k c := hJ.pre 3 (by decide) (hwt 3 (by decide)) nm nm
            obtain ⟨ge, cl, hO⟩ := hJ.pre 0 (by decide) (hwt 0 (by decide)) n4 nm
            have cl' : ff 0 = _ := cl
            rw [cl] at hO
            refine wpList_append_src rfl _ _ 60 rfl wy.heap.size 9 i0 (.string ⟨#[]⟩) 1 16 Tryz.underlying60 hi hz0 hz1 hz2 rfl (by decide) (.slice (some ⟨ge, 0, none⟩) 0 0) 0 [] cl' hO (some ⟨g, 0, none⟩) k c ((l.take k).map encStr) c3' (SR1.out _ hI) (one_map _) (by unfold maxLen; omega) (by omega) hI.size ?_
            intro v' wz ho hg hat
            rw [Nat.zero_add k, List.nil_append] at ho
            simp only [Act.put, List.setIfInBounds_toArray, List.set_cons_succ, List.set_cons_zero]
            have hbz : Below wy.heap.size wy wz := hI.grown hg hI.size (fun y e => (hO.lt y e).1)
            have hR : RowU wy.heap.size wz v' k (l.take k) := ho
            obtain ⟨a1, c1, rfl⟩ := hR.slice
            refine hQ _ _ wz rfl (hJ.pre_op2 (i := 4) (by decide) nm nm1 hbz (fun j v hL hE0 hE h => by
                  match j, h with
                  | 1, h | 2, h | 3, h | 5, h | 8, h | 9, h | 10, h => exact h
                  | 0, _ => exact absurd rfl hE
                  | 4, _ => exact absurd (hL.symm.trans n4) (by decide)
                  | 6, ⟨gx, e1, e2⟩ => exact ⟨gx, e1, (hg.block gx (Array.getElem?_eq_some_iff.1 e2).1 (fun e => empty_ne hO e2 (by have := e; simp [Value.ownBlock] at this; omega))).trans e2⟩
                  | 7, _ => exact absurd (hL.symm.trans n7) (by decide)
                  | n + 11, _ => exact True.intro) ⟨a1, c1, rfl, hR⟩)
          · intro L ff kk ww hkk hJ hcl hLi hwt QQ' hQ
            try dsimp only
            have nm : L 11 = false := by
              cases hx : L 11 with
              | false => rfl
              | true =>
                have h11x := hx
                have h7x : L 7 = true := hcl 11 _ rfl h11x 7 (by decide)
                have h6x : L 6 = true := hcl 7 _ rfl h7x 6 (by decide)
                have h5x : L 5 = true := hcl 6 _ rfl h6x 5 (by decide)
                have h2 : L 5 = false := hLi
                rw [h5x] at h2; cases h2
            have nm1 : L 12 = false := by
              cases hx : L 12 with
              | false => rfl
              | true =>
                have h12x := hx
                have h11x : L 11 = true := hcl 12 _ rfl h12x 11 (by decide)
                have h7x : L 7 = true := hcl 11 _ rfl h11x 7 (by decide)
                have h6x : L 6 = true := hcl 7 _ rfl h7x 6 (by decide)
                have h5x : L 5 = true := hcl 6 _ rfl h6x 5 (by decide)
                have h2 : L 5 = false := hLi
                rw [h5x] at h2; cases h2
            have hI := hJ.inv nm
            go_big_wp2_with fail
            refine hQ _ _ _ ?_ (hJ.pre_op2 (i := 5) (by decide) nm nm1 hI (fun j v _ _ _ h => h.kept (Below.refl _ _)) (rfl))
            first | rfl | (simp [upd]; done)
          · intro L ff kk ww hkk hJ hcl hLi hwt QQ' hQ
            try dsimp only
            have nm : L 11 = false := by
              cases hx : L 11 with
              | false => rfl
              | true =>
                have h11x := hx
                have h7x : L 7 = true := hcl 11 _ rfl h11x 7 (by decide)
                have h6x : L 6 = true := hcl 7 _ rfl h7x 6 (by decide)
                have h2 : L 6 = false := hLi
                rw [h6x] at h2; cases h2
            have nm1 : L 12 = false := by
              cases hx : L 12 with
              | false => rfl
              | true =>
                have h12x := hx
                have h11x : L 11 = true := hcl 12 _ rfl h12x 11 (by decide)
                have h7x : L 7 = true := hcl 11 _ rfl h11x 7 (by decide)
                have h6x : L 6 = true := hcl 7 _ rfl h7x 6 (by decide)
                have h2 : L 6 = false := hLi
                rw [h6x] at h2; cases h2
            have hI := hJ.inv nm
            have c5' : ff 5 = .string s := hJ.pre 5 (by decide) (hwt 5 (by decide)) nm nm
            rw [c5']
            go_big_wp2_with fail
            refine hQ _ _ (ww.alloc (.cells #[.string s] 9)) ?_ (hJ.pre_op2 (i := 6) (by decide) nm nm1 (hI.alloc hI.size _) (fun j v _ _ _ h => h.kept ((Below.refl _ _).alloc (Nat.le_refl _) _)) ⟨ww.heap.size, rfl, heap_alloc_new ww _⟩)
            first | rfl | (simp [upd, c5']; done)
          · intro L ff kk ww hkk hJ hcl hLi hwt QQ' hQ
            try dsimp only
            have nm : L 11 = false := by
              cases hx : L 11 with
              | false => rfl
              | true =>
                have h11x := hx
                have h7x : L 7 = true := hcl 11 _ rfl h11x 7 (by decide)
                have h2 : L 7 = false := hLi
                rw [h7x] at h2; cases h2
            have nm1 : L 12 = false := by
              cases hx : L 12 with
              | false => rfl
              | true =>
                have h12x := hx
                have h11x : L 11 = true := hcl 12 _ rfl h12x 11 (by decide)
                have h7x : L 7 = true := hcl 11 _ rfl h11x 7 (by decide)
                have h2 : L 7 = false := hLi
                rw [h7x] at h2; cases h2
            have hI := hJ.inv nm
            have n7 : L 7 = false := hLi
            have y4 : L 4 = true := hwt 4 (by decide)
            have y6 : L 6 = true := hwt 6 (by decide)
            obtain ⟨a1, c1, cl, hO⟩ := hJ.pre 4 (by decide) y4 n7 nm
            obtain ⟨gx, e1, e2⟩ := hJ.pre 6 (by decide) y6 n7 nm
            have cl' : ff 4 = _ := cl
            have e1' : ff 6 = _ := e1
            rw [cl] at hO
            refine wpList_append_src rfl _ _ 60 rfl wy.heap.size 9 i0 (.string ⟨#[]⟩) 1 16 Tryz.underlying60 hi hz0 hz1 hz2 rfl (by decide) (.slice a1 k c1) k ((l.take k).map encStr) cl' hO (some ⟨gx, 0, none⟩) 1 1 [.string s] e1' (src_one e2) (by intro u hu; simp at hu; subst hu; rfl) (by unfold maxLen; omega) (by omega) hI.size ?_
            intro v' wz ho hg hat
            simp only [Act.put, List.setIfInBounds_toArray, List.set_cons_succ, List.set_cons_zero]
            have hbz : Below wy.heap.size wy wz := hI.grown hg hI.size (fun y e => (World.ownsRow.lt hO y e).1)
            have hR : RowU wy.heap.size wz v' (k + 1) (l.take k ++ [s.data.toList]) := by unfold RowU; rw [List.map_append]; exact ho
            obtain ⟨a2, c2, rfl⟩ := hR.slice
            refine hQ _ _ wz rfl (hJ.pre_op2 (i := 7) (by decide) nm nm1 hbz (fun j v hL hE0 hE h => by
                  match j, h with
                  | 1, h | 2, h | 3, h | 5, h | 8, h | 9, h | 10, h => exact h
                  | 0, _ => exact absurd (y4.symm.trans hE0) (by decide)
                  | 4, _ => exact absurd rfl hE
                  | 6, _ => exact absurd rfl hE
                  | 7, _ => exact absurd (hL.symm.trans n7) (by decide)
                  | n + 11, _ => exact True.intro) ⟨a2, c2, rfl, hR⟩)
          · intro L ff kk ww hkk hJ hcl hLi hwt QQ' hQ
            try dsimp only
            have nm : L 11 = false := by
              cases hx : L 11 with
              | false => rfl
              | true =>
                have h11x := hx
                have h10x : L 10 = true := hcl 11 _ rfl h11x 10 (by decide)
                have h8x : L 8 = true := hcl 10 _ rfl h10x 8 (by decide)
                have h2 : L 8 = false := hLi
                rw [h8x] at h2; cases h2
            have nm1 : L 12 = false := by
              cases hx : L 12 with
              | false => rfl
              | true =>
                have h12x := hx
                have h11x : L 11 = true := hcl 12 _ rfl h12x 11 (by decide)
                have h10x : L 10 = true := hcl 11 _ rfl h11x 10 (by decide)
                have h8x : L 8 = true := hcl 10 _ rfl h10x 8 (by decide)
                have h2 : L 8 = false := hLi
                rw [h8x] at h2; cases h2
            have hI := hJ.inv nm
            go_big_wp2_with fail
            refine hQ _ _ _ ?_ (hJ.pre_op2 (i := 8) (by decide) nm nm1 hI (fun j v _ _ _ h => h.kept (Below.refl _ _)) (rfl))
            first | rfl | (simp [upd]; done)
          · intro L ff kk ww hkk hJ hcl hLi hwt QQ' hQ
            try dsimp only
            have nm : L 11 = false := by
              cases hx : L 11 with
              | false => rfl
              | true =>
                have h11x := hx
                have h10x : L 10 = true := hcl 11 _ rfl h11x 10 (by decide)
                have h9x : L 9 = true := hcl 10 _ rfl h10x 9 (by decide)
                have h2 : L 9 = false := hLi
                rw [h9x] at h2; cases h2
            have nm1 : L 12 = false := by
              cases hx : L 12 with
              | false => rfl
              | true =>
                have h12x := hx
                have h11x : L 11 = true := hcl 12 _ rfl h12x 11 (by decide)
                have h10x : L 10 = true := hcl 11 _ rfl h11x 10 (by decide)
                have h9x : L 9 = true := hcl 10 _ rfl h10x 9 (by decide)
                have h2 : L 9 = false := hLi
                rw [h9x] at h2; cases h2
            have hI := hJ.inv nm
            go_big_wp2_with fail
            refine hQ _ _ _ ?_ (hJ.pre_op2 (i := 9) (by decide) nm nm1 hI (fun j v _ _ _ h => h.kept (Below.refl _ _)) (rfl))
            first | rfl | (simp [upd]; done)
          · intro L ff kk ww hkk hJ hcl hLi hwt QQ' hQ
            try dsimp only
            have nm : L 11 = false := by
              cases hx : L 11 with
              | false => rfl
              | true =>
                have h11x := hx
                have h10x : L 10 = true := hcl 11 _ rfl h11x 10 (by decide)
                have h2 : L 10 = false := hLi
                rw [h10x] at h2; cases h2
            have nm1 : L 12 = false := by
              cases hx : L 12 with
              | false => rfl
              | true =>
                have h12x := hx
                have h11x : L 11 = true := hcl 12 _ rfl h12x 11 (by decide)
                have h10x : L 10 = true := hcl 11 _ rfl h11x 10 (by decide)
                have h2 : L 10 = false := hLi
                rw [h10x] at h2; cases h2
            have hI := hJ.inv nm
            have c8' : ff 8 = .slice (some ⟨g, 0, none⟩) l.length c := hJ.pre 8 (by decide) (hwt 8 (by decide)) nm nm
            have c9' : ff 9 = .int .i64 (k : Int) := hJ.pre 9 (by decide) (hwt 9 (by decide)) nm nm
            refine wpList_slice_l rfl 60 _ _ rfl (by kernel_rfl) _ _ _ k 1 c8' c9' (by omega) SZ _ HSL.out.symm ?_
            simp only [Act.put, List.setIfInBounds_toArray, List.set_cons_succ, List.set_cons_zero]
            exact hQ _ _ _ rfl (hJ.pre_op2 (i := 10) (by decide) nm nm1 hI (fun j v _ _ _ h => h.kept (Below.refl _ _)) rfl)
          · intro L ff kk ww hkk hJ hcl hLi hwt QQ' hQ
            try dsimp only
            have nm : L 11 = false := hLi
            have nm1 : L 12 = false := by
              cases hx : L 12 with
              | false => rfl
              | true =>
                have h12x := hx
                have h11x : L 11 = true := hcl 12 _ rfl h12x 11 (by decide)
                have h2 : L 11 = false := hLi
                rw [h11x] at h2; cases h2
            have hI := hJ.inv nm
            have y7 : L 7 = true := hwt 7 (by decide)
            obtain ⟨a1, c1, cl, hO⟩ := hJ.pre 7 (by decide) y7 nm nm
            have cl' : ff 7 = _ := cl
            have c10' : ff 10 = .slice ad (l.length - k) cd := hJ.pre 10 (by decide) (hwt 10 (by decide)) nm nm
            rw [cl] at hO
            refine wpList_append_src rfl _ _ 60 rfl wy.heap.size 9 i0 (.string ⟨#[]⟩) 1 16 Tryz.underlying60 hi hz0 hz1 hz2 rfl (by decide) (.slice a1 (k + 1) c1) (k + 1) ((l.take k ++ [s.data.toList]).map encStr) cl' hO ad (l.length - k) cd ((l.drop k).map encStr) c10' (SR2.out _ hI) (one_map _) (by unfold maxLen; omega) (by omega) hI.size ?_
            intro v' wz ho hg hat
            simp only [Act.put, List.setIfInBounds_toArray, List.set_cons_succ, List.set_cons_zero]
            have hbz : Below wy.heap.size wy wz := hI.grown hg hI.size (fun y e => (World.ownsRow.lt hO y e).1)
            have hR : RowU wy.heap.size wz v' (l.length + 1) (l.take k ++ s.data.toList :: l.drop k) := by
              unfold RowU
              rw [show l.length + 1 = k + 1 + (l.length - k) by omega, show l.take k ++ s.data.toList :: l.drop k = l.take k ++ [s.data.toList] ++ l.drop k by simp, List.map_append]
              exact ho
            refine hQ _ _ wz rfl (hJ.app_op nm1 ⟨hR, hbz⟩)
          · intro L ff kk ww hkk hJ hcl hLi hwt QQ' hQ
            try dsimp only
            have hm : L 11 = true := hwt 11 (by decide)
            go_big_wp2_with fail
            refine hQ _ _ _ ?_ (hJ.fin_op hm rfl)
            first | rfl | (simp [upd]; done)
        case hend =>
          intro L ff kk w9 hkb hL hJ
          try dsimp only
          obtain ⟨hR9, hb9⟩ := hJ.fin (hL 12 (by decide))
          clear hJ hL
          obtain ⟨g9, c9, e9, hb, hgs⟩ := hR9.form (by simp)
          have H9 := Lib.hid hR9
          have B9 := Lib.hid hb9
          clear hR9 hb9
          rw [e9] at H9 ⊢
          clear e9
          go_wp2
          go_ret
          exact ⟨g9, _, c9, rfl, by rw [HR.out]; simp; omega, row_cap H9.out, hgs, by rw [HR.out]; exact row_lies H9.out, B9.out⟩
end Go.Proofs.YtemjooejfmkkbaaGreatDoor

namespace Go.Proofs.YtemjooejfmkkbaaGreatDoor
open Go.RowKit
set_option linter.unusedVariables false
set_option linter.unusedSimpArgs false

theorem putsU_app (l a b : List (List UInt8)) : putsU l (a ++ b) = putsU (putsU l a) b := by unfold putsU; rw [List.foldl_append]
theorem wL_app' (a b : List Tr) : wL (a ++ b) = wL a + wL b := by
  induction a with
  | nil => simp [wL]
  | cons x r ih => rw [List.cons_append, wL, wL, ih]; omega
theorem wL_at {ks : List Tr} {k : Nat} (h : k < ks.length) : wL (ks.take k) + wT ks[k] ≤ wL ks := by
  have h1 := wL_take ks (k + 1)
  rw [List.take_succ_eq_append_getElem h, wL_app'] at h1
  have : wL [ks[k]] = wT ks[k] := by simp [wL]
  omega
def NamesAtS (t : Tr) : Prop := ∀ (f : Fld) (w : World) (g c : Nat) (l : List (List UInt8)), TrF All w t f → OkP t → Strs w (some ⟨g, 0, none⟩) l.length (l.map bsU) → g < w.heap.size → l.length ≤ c → l.length + wT t ≤ 200 →
  Calls Tryz.prog 108 #[f.val, .slice (some ⟨g, 0, none⟩) l.length c] w (PutP (putsU l (namesT t)) w)
set_option maxRecDepth 100000 in
set_option maxHeartbeats 16000000 in
theorem namesSN (o n : Int) (s : ByteArray) (ks : List Tr) (ms : List (Int × Int)) (ih : ∀ t ∈ ks, NamesAtS t) : NamesAtS (.node o n s ks ms) := by
  intro f w g c l h hok hst hg hlc hl200
  obtain ⟨e1, e2, e3, hm, hk, hc1, hc2⟩ := trF_iff.1 h
  obtain ⟨fo, fn, fs, ka, kl, kc, ma, ml, mc⟩ := f
  dsimp only at e1 e2 e3 hm hk hc1 hc2
  have q1 := e1.symm
  have q2 := e2.symm
  have q3 := e3.symm
  clear e1 e2 e3
  subst q1 q2 q3
  obtain rfl := hk.1
  obtain rfl := hm.1
  obtain ⟨hpl, hoks⟩ := okP_parts hok
  rw [wT] at hl200
  have hw29 : wL ks ≤ 29 := by have := okP_w hok; rw [wT] at this; omega
  have hkb : ks.length ≤ 29 := by have := len_wL ks; omega
  have HK := Lib.hid hk
  have IH := Lib.hid ih
  have HOK := Lib.hid hoks
  have HNB : Hid (∀ k, (namesL (ks.take k)).length ≤ wL (ks.take k)) := fun k => by
    have e : ∀ l : List Tr, (namesL l).length ≤ wL l := by
      intro l
      induction l with
      | nil => simp [namesL, wL]
      | cons t r ih => rw [namesL, wL, List.length_append]; have := names_len _ t (Nat.le_refl _); omega
    exact e _
  clear h hm hk hc1 hc2 hpl hoks hok ih
  unfold Fld.val
  dsimp only
  have hA : Below w.heap.size w (w.alloc (.cells #[.int .i64 o, .int .i64 n, .string s, .slice ka ks.length kc, .slice ma ms.length mc] 38)) := (Below.refl _ _).alloc (Nat.le_refl _) _
  have hArg : (w.alloc (.cells #[.int .i64 o, .int .i64 n, .string s, .slice ka ks.length kc, .slice ma ms.length mc] 38)).heap[w.heap.size]? = some (.cells #[.int .i64 o, .int .i64 n, .string s, .slice ka ks.length kc, .slice ma ms.length mc] 38 (0, 0)) := heap_alloc_new w _
  have HST := Lib.hid (hst.kept hA)
  have hgA : g < (w.alloc (.cells #[.int .i64 o, .int .i64 n, .string s, .slice ka ks.length kc, .slice ma ms.length mc] 38)).heap.size := by simp only [World.size_alloc]; omega
  have HA := Lib.hid hA
  have HArg := Lib.hid hArg
  clear hA hArg hst
  unfold PutP
  cases ho : (o == 2) with
  | true =>
    have ho2 : o = 2 := by simpa using ho
    obtain ⟨L0, hL0⟩ : ∃ L0, L0 = putU l s.data.toList := ⟨_, rfl⟩
    have HL0 := Lib.hid hL0
    have hl0 : L0.length ≤ l.length + 1 := by rw [hL0]; have := putU_len l s.data.toList; omega
    have HT : Hid (putsU l (namesT (.node o n s ks ms)) = putsU L0 (namesL ks)) := by refine Lib.hid ?_; rw [two_head, if_pos ho2, putsU_app, hL0]; rfl
    have hput := Lib.hid (specPut g c l s (w.alloc (.cells #[.int .i64 o, .int .i64 n, .string s, .slice ka ks.length kc, .slice ma ms.length mc] 38)) HST.out hgA (by omega) hlc)
    rw [← hL0] at hput
    unfold PutP at hput
    have xa0 : (w.alloc (.cells #[.int .i64 o, .int .i64 n, .string s, .slice ka ks.length kc, .slice ma ms.length mc] 38)).cell? ⟨w.heap.size, 2, none⟩ = some (.string s) := by rw [Lib.cell_of_heap HArg.out]; rfl
    clear ho2 hL0
    go_enter Tryz.func108, Tryz.ntmps108
    go_wp2_with fail
    refine hput.out.mono ?_
    rintro e w1 ⟨g0, n0, c0, rfl, rfl, hc0, hg0, hS0, d0⟩
    have HS0 := Lib.hid hS0
    have HX0 := Lib.hid ((d0.block _ (Array.getElem?_eq_some_iff.1 HArg.out).1).trans HArg.out)
    have HB0 := Lib.hid (HA.out.trans (d0.mono HA.out.size))
    clear hS0 d0 hput HArg xa0 HST
    go_wp2_with fail
    go_loopw [1, 5] (fun vo vi wr => ∃ (k g c : Nat), k ≤ ks.length ∧ vi = .int .i64 k ∧ vo = .slice (some ⟨g, 0, none⟩) (putsU L0 (namesL (ks.take k))).length c ∧ (putsU L0 (namesL (ks.take k))).length ≤ c ∧ g < wr.heap.size ∧ Hid (Strs wr (some ⟨g, 0, none⟩) (putsU L0 (namesL (ks.take k))).length ((putsU L0 (namesL (ks.take k))).map bsU)) ∧ Hid (wr.heap[w.heap.size]? = some (.cells #[.int .i64 o, .int .i64 n, .string s, .slice ka ks.length kc, .slice ma ms.length mc] 38 (0, 0))) ∧ Hid (Below w.heap.size w wr)) (fun _ vi _ => ks.length - (intOf vi).toNat)
    case atStart => exact ⟨0, g0, c0, Nat.zero_le _, rfl, rfl, hc0, hg0, HS0, HX0, HB0⟩
    case round =>
      obtain ⟨k, g1, c1, hk, rfl, rfl, hcap, hgs, hS, hX, hb⟩ := hrel
      clear HS0 HX0 HB0
      have hdk := HNB.out k
      have hdk2 := wL_take ks k
      have hlen := putsU_len (namesL (ks.take k)) L0
      have hxl : w.heap.size < wr.heap.size := (Array.getElem?_eq_some_iff.1 hX.out).1
      have ca3 : wr.cell? ⟨w.heap.size, 3, none⟩ = some (Value.slice ka ks.length kc) := by rw [Lib.cell_of_heap hX.out]; rfl
      rcases Nat.lt_or_ge k ks.length with hlt | hge
      · have k1 : (k : Int) < ks.length := by omega
        have k0 : (0 : Int) ≤ k := by omega
        obtain ⟨b, off, rfl, -, hbl, hrow⟩ := (HK.out.kept (same_of_below (N := All) hb.out)).cells (by omega)
        obtain ⟨f, ⟨y0, y1, y2, y3, y4⟩, ht⟩ := hrow k hlt
        have hwk := wL_at hlt
        have hcall := Lib.hid (IH.out ks[k] (List.getElem_mem _) f wr g1 c1 (putsU L0 (namesL (ks.take k))) ht (HOK.out _ (List.getElem_mem _)) hS.out hgs hcap (by omega))
        have HSN : Hid (putsU L0 (namesL (ks.take (k + 1))) = putsU (putsU L0 (namesL (ks.take k))) (namesT ks[k])) := by refine Lib.hid ?_; rw [namesL_take hlt, putsU_app]
        unfold Fld.val PutP at hcall
        generalize putsU L0 (namesL (ks.take k)) = DS at *
        generalize namesT ks[k] = CT at *
        clear hrow ht hbl hS
        go_wp2_with fail
        refine hcall.out.mono ?_
        rintro e w2 ⟨g2, n2, c2, rfl, rfl, hc2, hg2, hS2, d2⟩
        have HS2 := Lib.hid hS2
        have HX2 := Lib.hid ((d2.block _ hxl).trans hX.out)
        have HB2 := Lib.hid (hb.out.trans (d2.mono hb.out.size))
        clear hS2 d2 hcall hX hb y0 y1 y2 y3 y4 ca3
        go_wp2
        go_roundw
        case rel => exact ⟨k + 1, g2, c2, by omega, by go_num, by rw [HSN.out], by rw [HSN.out]; exact hc2, hg2, by rw [HSN.out]; exact HS2, HX2, HB2⟩
        case measure => simp [intOf]; omega
      · obtain rfl : k = ks.length := by omega
        rw [List.take_length] at hS hcap ⊢
        go_wp2
        go_ret
        exact ⟨g1, _, c1, rfl, by rw [HT.out], hcap, hgs, by rw [HT.out]; exact hS.out, hb.out⟩
  | false =>
    have ho2 : ¬ o = 2 := by simpa using ho
    obtain ⟨L0, hL0⟩ : ∃ L0, L0 = l := ⟨_, rfl⟩
    subst hL0
    have hl0 : L0.length + wL ks ≤ 200 := by omega
    have HT : Hid (putsU L0 (namesT (.node o n s ks ms)) = putsU L0 (namesL ks)) := by refine Lib.hid ?_; rw [two_head, if_neg ho2, List.nil_append]
    clear ho2
    go_enter Tryz.func108, Tryz.ntmps108
    go_wp2_with fail
    go_loopw [1, 5] (fun vo vi wr => ∃ (k g c : Nat), k ≤ ks.length ∧ vi = .int .i64 k ∧ vo = .slice (some ⟨g, 0, none⟩) (putsU L0 (namesL (ks.take k))).length c ∧ (putsU L0 (namesL (ks.take k))).length ≤ c ∧ g < wr.heap.size ∧ Hid (Strs wr (some ⟨g, 0, none⟩) (putsU L0 (namesL (ks.take k))).length ((putsU L0 (namesL (ks.take k))).map bsU)) ∧ Hid (wr.heap[w.heap.size]? = some (.cells #[.int .i64 o, .int .i64 n, .string s, .slice ka ks.length kc, .slice ma ms.length mc] 38 (0, 0))) ∧ Hid (Below w.heap.size w wr)) (fun _ vi _ => ks.length - (intOf vi).toNat)
    case atStart => exact ⟨0, g, c, Nat.zero_le _, rfl, rfl, hlc, hgA, HST, HArg, HA⟩
    case round =>
      obtain ⟨k, g1, c1, hk, rfl, rfl, hcap, hgs, hS, hX, hb⟩ := hrel
      clear HST HArg
      have hdk := HNB.out k
      have hdk2 := wL_take ks k
      have hlen := putsU_len (namesL (ks.take k)) L0
      have hxl : w.heap.size < wr.heap.size := (Array.getElem?_eq_some_iff.1 hX.out).1
      have ca3 : wr.cell? ⟨w.heap.size, 3, none⟩ = some (Value.slice ka ks.length kc) := by rw [Lib.cell_of_heap hX.out]; rfl
      rcases Nat.lt_or_ge k ks.length with hlt | hge
      · have k1 : (k : Int) < ks.length := by omega
        have k0 : (0 : Int) ≤ k := by omega
        obtain ⟨b, off, rfl, -, hbl, hrow⟩ := (HK.out.kept (same_of_below (N := All) hb.out)).cells (by omega)
        obtain ⟨f, ⟨y0, y1, y2, y3, y4⟩, ht⟩ := hrow k hlt
        have hwk := wL_at hlt
        have hcall := Lib.hid (IH.out ks[k] (List.getElem_mem _) f wr g1 c1 (putsU L0 (namesL (ks.take k))) ht (HOK.out _ (List.getElem_mem _)) hS.out hgs hcap (by omega))
        have HSN : Hid (putsU L0 (namesL (ks.take (k + 1))) = putsU (putsU L0 (namesL (ks.take k))) (namesT ks[k])) := by refine Lib.hid ?_; rw [namesL_take hlt, putsU_app]
        unfold Fld.val PutP at hcall
        generalize putsU L0 (namesL (ks.take k)) = DS at *
        generalize namesT ks[k] = CT at *
        clear hrow ht hbl hS
        go_wp2_with fail
        refine hcall.out.mono ?_
        rintro e w2 ⟨g2, n2, c2, rfl, rfl, hc2, hg2, hS2, d2⟩
        have HS2 := Lib.hid hS2
        have HX2 := Lib.hid ((d2.block _ hxl).trans hX.out)
        have HB2 := Lib.hid (hb.out.trans (d2.mono hb.out.size))
        clear hS2 d2 hcall hX hb y0 y1 y2 y3 y4 ca3
        go_wp2
        go_roundw
        case rel => exact ⟨k + 1, g2, c2, by omega, by go_num, by rw [HSN.out], by rw [HSN.out]; exact hc2, hg2, by rw [HSN.out]; exact HS2, HX2, HB2⟩
        case measure => simp [intOf]; omega
      · obtain rfl : k = ks.length := by omega
        rw [List.take_length] at hS hcap ⊢
        go_wp2
        go_ret
        exact ⟨g1, _, c1, rfl, by rw [HT.out], hcap, hgs, by rw [HT.out]; exact hS.out, hb.out⟩
theorem namesSC : ∀ (k : Nat) (t : Tr), wT t ≤ k → NamesAtS t
  | 0, .node o n s ks ms, hw => by rw [wT] at hw; omega
  | k + 1, .node o n s ks ms, hw => by
    rw [wT] at hw
    exact namesSN o n s ks ms (fun t ht => namesSC k t (by have := wL_mem ht; omega))
end Go.Proofs.YtemjooejfmkkbaaGreatDoor

namespace Go.Proofs.YtemjooejfmkkbaaGreatDoor
open Go.RowKit
set_option linter.unusedVariables false
set_option linter.unusedSimpArgs false

def namesR (t : Tr) : List (List UInt8) := if okR t then putsU [] (namesT t) else []
theorem namesR_len (t : Tr) : (namesR t).length ≤ 30 := by
  unfold namesR
  split
  · rename_i h
    have h1 := putsU_len (namesT t) []
    have h2 := names_len _ t (Nat.le_refl _)
    have h3 := okP_w (okR_P h.1)
    simp only [List.length_nil] at h1
    omega
  · simp
def SNamesP (l : List (List UInt8)) (w : World) (e : Ending) (w' : World) : Prop := ∃ (a : Option Addr) (n c : Nat), e = .returned (.slice a n c) ∧ n = l.length ∧ Strs w' a n (l.map bsU) ∧ Below w.heap.size w w'
theorem row_mono {w : World} {B B' : Nat} {v : Value} {n : Nat} {l : List (List UInt8)} (h : RowU B w v n l) (hb : B' ≤ B) : RowU B' w v n l :=
  ⟨h.1, h.2.imp id fun ⟨g, cap, cur, q1, q2, q3⟩ => ⟨g, cap, cur, q1, Nat.le_trans hb q2, q3⟩⟩
set_option maxHeartbeats 8000000 in
theorem specRuleNames {t : Tr} {f : Fld} {w : World} (h : TrF All w t f) (hs : szT t ≤ 1048576) :
    Calls Tryz.prog 47 #[f.val] w (SNamesP (namesR t) w) := by
  have hA : Below w.heap.size w (w.alloc (RBox f)) := (Below.refl _ _).alloc (Nat.le_refl _) _
  have hArg : (w.alloc (RBox f)).heap[w.heap.size]? = some (RBox f) := heap_alloc_new w _
  have hO := Lib.hid (specRuleOk (h.kept (same_of_below hA)) hs)
  have H := Lib.hid h
  have HA := Lib.hid hA
  have HArg := Lib.hid hArg
  clear h hA hArg hs
  unfold RBox at HA HArg hO
  unfold SNamesP
  unfold Fld.val at hO ⊢
  cases hok : decide (okR t) with
  | false =>
    rw [hok] at hO
    have HF : Hid (namesR t = []) := by refine Lib.hid ?_; unfold namesR; rw [if_neg (by simpa using hok)]
    rw [HF.out]
    clear hok
    go_enter Tryz.func47, Tryz.ntmps47
    go_wp2_with fail
    refine hO.out.mono ?_
    rintro e w1 ⟨rfl, d1⟩
    have HB1 := Lib.hid (HA.out.trans (d1.mono HA.out.size))
    clear d1
    go_wp2
    go_ret
    exact ⟨some ⟨w1.heap.size, 0, none⟩, 0, 0, rfl, rfl, ⟨rfl, Or.inl rfl⟩, HB1.out.alloc HB1.out.size _⟩
  | true =>
    rw [hok] at hO
    have hk : okR t := by simpa using hok
    have HF : Hid (namesR t = putsU [] (namesT t)) := by refine Lib.hid ?_; unfold namesR; rw [if_pos hk]
    have HP := Lib.hid (okR_P hk.1)
    have hw := okP_w HP.out
    have hnl := names_len _ t (Nat.le_refl _)
    rw [HF.out]
    clear hok hk
    go_enter Tryz.func47, Tryz.ntmps47
    go_wp2_with fail
    refine hO.out.mono ?_
    rintro e w1 ⟨rfl, d1⟩
    have HB1 := Lib.hid (HA.out.trans (d1.mono HA.out.size))
    have arg1 := (d1.block _ (Array.getElem?_eq_some_iff.1 HArg.out).1).trans HArg.out
    have y0 : w1.cell? ⟨w.heap.size, 0, none⟩ = some (.int .i64 f.op) := by rw [Lib.cell_of_heap arg1]; rfl
    have y1 : w1.cell? ⟨w.heap.size, 1, none⟩ = some (.int .i64 f.num) := by rw [Lib.cell_of_heap arg1]; rfl
    have y2 : w1.cell? ⟨w.heap.size, 2, none⟩ = some (.string f.name) := by rw [Lib.cell_of_heap arg1]; rfl
    have y3 : w1.cell? ⟨w.heap.size, 3, none⟩ = some (.slice f.ka f.kl f.kc) := by rw [Lib.cell_of_heap arg1]; rfl
    have y4 : w1.cell? ⟨w.heap.size, 4, none⟩ = some (.slice f.ma f.ml f.mc) := by rw [Lib.cell_of_heap arg1]; rfl
    have hXB : Below w1.heap.size w1 (w1.alloc (.cells #[] 9)) := (Below.refl _ _).alloc (Nat.le_refl _) _
    have hM := Lib.hid (namesSC _ t (Nat.le_refl _) f (w1.alloc (.cells #[] 9)) w1.heap.size 0 [] (H.out.kept (same_of_below (HB1.out.trans (hXB.mono HB1.out.size)))) HP.out ⟨rfl, Or.inl rfl⟩ (by simp only [World.size_alloc]; omega) (Nat.le_refl _) (by simp only [List.length_nil]; omega))
    rw [List.length_nil] at hM
    unfold Fld.val PutP at hM
    have HXB := Lib.hid (HB1.out.trans (hXB.mono HB1.out.size))
    clear d1 arg1 hXB
    go_wp2_with fail
    refine hM.out.mono ?_
    rintro e w2 ⟨g, n, c, rfl, hn, hc, hg, hC, d2⟩
    have HC := Lib.hid hC
    have HN := Lib.hid hn
    clear hC hn y0 y1 y2 y3 y4
    go_wp2
    go_ret
    exact ⟨_, n, c, rfl, HN.out, HC.out, HXB.out.trans (d2.mono HXB.out.size)⟩
set_option maxHeartbeats 8000000 in
theorem implRuleNames {t : Tr} {f : Fld} {w : World} (h : TrF All w t f) (hs : szT t ≤ 1048576) (hL : Laid w) :
    Calls Tryz.prog 45 #[f.val] w (NamesP (namesR t) w) := by
  have hA : Below w.heap.size w (w.alloc (RBox f)) := (Below.refl _ _).alloc (Nat.le_refl _) _
  have hArg : (w.alloc (RBox f)).heap[w.heap.size]? = some (RBox f) := heap_alloc_new w _
  have hO := Lib.hid (implRuleOk (h.kept (same_of_below hA)) hs (laid_stays hL hA))
  have H := Lib.hid h
  have HA := Lib.hid hA
  have HArg := Lib.hid hArg
  clear h hA hArg hs hL
  unfold RBox at HA HArg hO
  unfold NamesP
  unfold Fld.val at hO ⊢
  cases hok : decide (okR t) with
  | false =>
    rw [hok] at hO
    have HF : Hid (namesR t = []) := by refine Lib.hid ?_; unfold namesR; rw [if_neg (by simpa using hok)]
    rw [HF.out]
    clear hok
    go_enter Tryz.func45, Tryz.ntmps45
    go_wp2_with fail
    refine hO.out.mono ?_
    rintro e w1 ⟨rfl, d1⟩
    have HB1 := Lib.hid (HA.out.trans (d1.mono HA.out.size))
    clear d1
    go_wp2
    go_ret
    exact ⟨none, 0, 0, rfl, rfl, World.ownsRow_nil _ _ _ _, HB1.out⟩
  | true =>
    rw [hok] at hO
    have hk : okR t := by simpa using hok
    have HF : Hid (namesR t = putsU [] (namesT t)) := by refine Lib.hid ?_; unfold namesR; rw [if_pos hk]
    have HP := Lib.hid (okR_P hk.1)
    have hw := okP_w HP.out
    have hnl := names_len _ t (Nat.le_refl _)
    rw [HF.out]
    clear hok hk
    go_enter Tryz.func45, Tryz.ntmps45
    go_wp2_with fail
    refine hO.out.mono ?_
    rintro e w1 ⟨rfl, d1⟩
    have HB1 := Lib.hid (HA.out.trans (d1.mono HA.out.size))
    have arg1 := (d1.block _ (Array.getElem?_eq_some_iff.1 HArg.out).1).trans HArg.out
    have y0 : w1.cell? ⟨w.heap.size, 0, none⟩ = some (.int .i64 f.op) := by rw [Lib.cell_of_heap arg1]; rfl
    have y1 : w1.cell? ⟨w.heap.size, 1, none⟩ = some (.int .i64 f.num) := by rw [Lib.cell_of_heap arg1]; rfl
    have y2 : w1.cell? ⟨w.heap.size, 2, none⟩ = some (.string f.name) := by rw [Lib.cell_of_heap arg1]; rfl
    have y3 : w1.cell? ⟨w.heap.size, 3, none⟩ = some (.slice f.ka f.kl f.kc) := by rw [Lib.cell_of_heap arg1]; rfl
    have y4 : w1.cell? ⟨w.heap.size, 4, none⟩ = some (.slice f.ma f.ml f.mc) := by rw [Lib.cell_of_heap arg1]; rfl
    have hM := Lib.hid (namesIC _ t (Nat.le_refl _) f w1 (H.out.kept (same_of_below HB1.out)) HP.out)
    unfold Fld.val NamesP at hM
    clear d1 arg1
    go_wp2_with fail
    refine hM.out.mono ?_
    rintro e w2 ⟨a, n, c, rfl, hn, hC, d2⟩
    have HB2 := Lib.hid (HB1.out.trans (d2.mono HB1.out.size))
    have hn30 : n ≤ 30 := by omega
    have hC2 : RowU w1.heap.size w2 (.slice a n c) n (namesT t) := hC
    have HN := Lib.hid hn
    have hSort := Lib.hid (sortCallS hC2 (by omega))
    have HC2 := Lib.hid hC2
    clear hC hn hM d2 y0 y1 y2 y3 y4 hC2
    go_wp2_with fail
    refine hSort.out.mono ?_
    rintro e w3 ⟨rfl, hO3, hg3⟩
    have hb3 : Below w.heap.size w w3 := HB2.out.grown hg3 HB2.out.size (fun y e => Nat.le_trans HB1.out.size (World.ownsRow.lt HC2.out y e).1)
    have hComp := Lib.hid (compactCallS hO3 (by omega))
    have HO3 := Lib.hid hO3
    have HB3 := Lib.hid hb3
    clear hO3 hg3 hSort hb3
    go_wp2_with fail
    refine hComp.out.mono ?_
    rintro e w4 ⟨rfl, hO4, hg4⟩
    have hb4 : Below w.heap.size w w4 := HB3.out.grown hg4 HB3.out.size (fun y e => Nat.le_trans HB1.out.size (World.ownsRow.lt HO3.out y e).1)
    have HO4 := Lib.hid hO4
    have HB4 := Lib.hid hb4
    clear hO4 hg4 hComp hb4
    go_wp2
    go_ret
    exact ⟨a, _, c, rfl, rfl, row_mono HO4.out HB1.out.size, HB4.out⟩
end Go.Proofs.YtemjooejfmkkbaaGreatDoor

