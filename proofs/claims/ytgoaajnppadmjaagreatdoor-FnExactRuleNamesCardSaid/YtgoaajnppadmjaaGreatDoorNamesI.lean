/-
  The names of a rule: the program's answer.
-/
import Derived.Test.YtgoaajnppadmjaaGreatDoorSortS
import Derived.Test.YtgoaajnppadmjaaGreatDoorAppSrc
import Derived.Test.YtgoaajnppadmjaaGreatDoorRuleOk
import Derived.OwnWalk
namespace Go.Proofs.YtgoaajnppadmjaaGreatDoor
open Go.RowKit
set_option linter.unusedVariables false
set_option linter.unusedSimpArgs false

theorem infoStr : (Tryz.prog.info? 9).map (fun i => (i.zero, i.size, i.bytes)) = some (some (.string ⟨#[]⟩), 1, 16) := by kernel_rfl
def RowU (B : Nat) (w : World) (v : Value) (n : Nat) (l : List (List UInt8)) : Prop := w.ownsRow B 9 1 v n (l.map encStr)
def NamesP (l : List (List UInt8)) (w : World) (e : Ending) (w' : World) : Prop := ∃ (a : Option Addr) (n c : Nat), e = .returned (.slice a n c) ∧ n = l.length ∧ RowU w.heap.size w' (.slice a n c) n l ∧ Below w.heap.size w w'
theorem namesL_take {ks : List Tr} {k : Nat} (h : k < ks.length) : namesL (ks.take (k + 1)) = namesL (ks.take k) ++ namesT ks[k] := by
  rw [List.take_succ_eq_append_getElem h, namesL_snoc]
theorem names_len : ∀ (k : Nat) (t : Tr), wT t ≤ k → (namesT t).length ≤ wT t
  | 0, .node o n s ks ms, hw => by rw [wT] at hw; omega
  | k + 1, .node o n s ks ms, hw => by
    rw [wT] at hw ⊢
    have e : ∀ ks : List Tr, wL ks ≤ k → (namesL ks).length ≤ wL ks := by
      intro ks
      induction ks with
      | nil => intro _; simp [namesL, wL]
      | cons t r ih =>
        intro hr
        rw [wL] at hr ⊢
        rw [namesL, List.length_append]
        have h1 := names_len k t (by omega)
        have h2 := ih (by omega)
        omega
    have h1 := e ks (by omega)
    rw [namesT, List.length_append]
    split <;> simp only [List.length_cons, List.length_nil] <;> omega
theorem RowU.below {B : Nat} {w w' : World} {v : Value} {n : Nat} {l : List (List UInt8)} (h : RowU B w v n l) (hb : Below w.heap.size w w') : RowU B w' v n l := h.kept (row := none) (below_grownM hb) (Classical.em _)
theorem addA (b o j : Nat) : (⟨b, o, none⟩ : Addr).add j = ⟨b, o + j, none⟩ := by unfold Addr.add; split <;> simp_all
theorem src_one {w : World} {gx : Nat} {s : ByteArray} (h : w.heap[gx]? = some (.cells #[.string s] 9 (0, 0))) : Src w (some ⟨gx, 0, none⟩) 1 1 [.string s] :=
  ⟨rfl, fun _ => ⟨_, rfl, World.news_of_block h⟩⟩
theorem enc_data (s : ByteArray) : encStr s.data.toList = Value.string s := by simp [encStr]
/-- What stands in a row of one's own, as a source. -/
theorem src_row {B : Nat} {w : World} {a : Option Addr} {n c : Nat} {l : List (List UInt8)} (h : RowU B w (.slice a n c) n l) : Src w a n 1 (l.map encStr) := by
  refine ⟨by rw [Nat.mul_one]; exact by have := h.1; rw [Nat.mul_one] at this; exact this, fun h0 => ?_⟩
  obtain ⟨g, cap, hv, hbase, hg⟩ := h.form (by omega)
  injection hv with ha _ hc
  subst ha
  refine ⟨_, rfl, fun j u hj => ?_⟩
  have hjl := (List.getElem?_eq_some_iff.1 hj).1
  have hn := h.1
  rw [addA, Nat.zero_add]
  have hr : RowU B w (.slice (some ⟨g, 0, none⟩) n c) n l := h
  rw [World.ownsRow.cellAt hr j (by omega)]
  exact hj
theorem RowU.slice {B : Nat} {w : World} {v : Value} {n : Nat} {l : List (List UInt8)} (h : RowU B w v n l) : ∃ a c, v = .slice a n c := by
  rcases h.2 with ⟨h1, h2⟩ | ⟨g, cap, cur, h1, -⟩
  · exact ⟨none, 0, by rw [h1, h2]⟩
  · exact ⟨_, _, h1⟩
theorem one_map (l : List (List UInt8)) : ∀ u ∈ l.map encStr, u.oneCell' = true := by
  intro u hu
  obtain ⟨x, -, rfl⟩ := List.mem_map.1 hu
  rfl
def NamesAtI (t : Tr) : Prop := ∀ (f : Fld) (w : World), TrF All w t f → OkP t → Calls Tryz.prog 48 #[f.val] w (NamesP (namesT t) w)
theorem two_head (o : Int) (s : ByteArray) (ks : List Tr) (n : Int) (ms : List (Int × Int)) : namesT (.node o n s ks ms) = (if o = 2 then [s.data.toList] else []) ++ namesL ks := by rw [namesT]
set_option maxRecDepth 100000 in
set_option maxHeartbeats 16000000 in
theorem namesIN (o n : Int) (s : ByteArray) (ks : List Tr) (ms : List (Int × Int)) (ih : ∀ t ∈ ks, NamesAtI t) : NamesAtI (.node o n s ks ms) := by
  intro f w h hok
  obtain ⟨i0, hi, hz0, hz1, hz2⟩ := info_parts infoStr
  obtain ⟨e1, e2, e3, hm, hk, hc1, hc2⟩ := trF_iff.1 h
  obtain ⟨fo, fn, fs, ka, kl, kc, ma, ml, mc⟩ := f
  dsimp only at e1 e2 e3 hm hk hc1 hc2
  have q1 := e1.symm
  have q2 := e2.symm
  have q3 := e3.symm
  clear e1 e2 e3
  subst q1 q2 q3
  obtain rfl := hk.1
  obtain rfl := hm.1
  obtain ⟨hpl, hoks⟩ := okP_parts hok
  have hw29 : wL ks ≤ 29 := by have := okP_w hok; rw [wT] at this; omega
  have hkb : ks.length ≤ 29 := by have := len_wL ks; omega
  have HK := Lib.hid hk
  have IH := Lib.hid ih
  have HOK := Lib.hid hoks
  have HT := Lib.hid (two_head o s ks n ms)
  have HNB : Hid (∀ k, (namesL (ks.take k)).length ≤ 29) := fun k => by
    have e : ∀ l : List Tr, (namesL l).length ≤ wL l := by
      intro l
      induction l with
      | nil => simp [namesL, wL]
      | cons t r ih => rw [namesL, wL, List.length_append]; have := names_len _ t (Nat.le_refl _); omega
    have h1 := e (ks.take k)
    have h2 := wL_take ks k
    omega
  clear h hm hk hc1 hc2 hpl hoks hok ih
  unfold Fld.val
  dsimp only
  have hA : Below w.heap.size w (w.alloc (.cells #[.int .i64 o, .int .i64 n, .string s, .slice ka ks.length kc, .slice ma ms.length mc] 32)) := (Below.refl _ _).alloc (Nat.le_refl _) _
  have hArg : (w.alloc (.cells #[.int .i64 o, .int .i64 n, .string s, .slice ka ks.length kc, .slice ma ms.length mc] 32)).heap[w.heap.size]? = some (.cells #[.int .i64 o, .int .i64 n, .string s, .slice ka ks.length kc, .slice ma ms.length mc] 32 (0, 0)) := heap_alloc_new w _
  have HA := Lib.hid hA
  have HArg := Lib.hid hArg
  clear hA hArg
  obtain ⟨hd, hhd⟩ : ∃ hd : List (List UInt8), hd = (if o = 2 then [s.data.toList] else []) := ⟨_, rfl⟩
  have HHD := Lib.hid hhd
  have hdl : hd.length ≤ 1 := by rw [hhd]; split <;> simp
  rw [HT.out, ← hhd]
  clear hhd
  unfold NamesP
  cases ho : (o == 2) with
  | true =>
    have ho2 : o = 2 := by simpa using ho
    have HS : Hid (hd = [s.data.toList]) := by refine Lib.hid ?_; rw [HHD.out, if_pos ho2]
    clear ho2
    go_enter Tryz.func48, Tryz.ntmps48
    have HB0 : Hid (Below w.heap.size w ((w.alloc (.cells #[.int .i64 o, .int .i64 n, .string s, .slice ka ks.length kc, .slice ma ms.length mc] 32)).alloc (.cells #[.string s] 9))) := HA.out.alloc (by simp only [World.size_alloc]; omega) _
    have hnew : ((w.alloc (.cells #[.int .i64 o, .int .i64 n, .string s, .slice ka ks.length kc, .slice ma ms.length mc] 32)).alloc (.cells #[.string s] 9)).heap[w.heap.size + 1]? = some (.cells #[.string s] 9 (0, 0)) := by
      have := heap_alloc_new (w.alloc (.cells #[.int .i64 o, .int .i64 n, .string s, .slice ka ks.length kc, .slice ma ms.length mc] 32)) (.cells #[.string s] 9)
      rw [World.size_alloc] at this
      exact this
    have hold : ((w.alloc (.cells #[.int .i64 o, .int .i64 n, .string s, .slice ka ks.length kc, .slice ma ms.length mc] 32)).alloc (.cells #[.string s] 9)).heap[w.heap.size]? = some (.cells #[.int .i64 o, .int .i64 n, .string s, .slice ka ks.length kc, .slice ma ms.length mc] 32 (0, 0)) := by
      rw [Lib.alloc_old _ _ _ (by simp only [World.size_alloc]; omega)]
      exact HArg.out
    have SRC1 := Lib.hid (src_one hnew)
    have HOLD := Lib.hid hold
    clear hnew hold
    go_wp2_with (at_builtin; refine wpList_append_src ?tp1 ?tps ?tpx 27 ?tp2 w.heap.size 9 i0 (.string ⟨#[]⟩) 1 16 ?tp3 ?tp4 ?tp5 ?tp6 ?tp7 ?tp8 ?tp9 (.slice none 0 0) 0 [] ?tp10 ?tph1 (some ⟨w.heap.size + 1, 0, none⟩) 1 1 [.string s] ?tp11 ?tph2 ?tph3 ?tpc1 ?tpc2 ?tpc3 ?_; (case tp1 => rfl); (case tp2 => rfl); (case tp10 => rfl); (case tp11 => rfl); (case tph1 => exact World.ownsRow_nil _ _ _ _); (case tp3 => exact Tryz.underlying27); (case tp4 => exact hi); (case tp5 => exact hz0); (case tp6 => exact hz1); (case tp7 => exact hz2); (case tp8 => rfl); (case tp9 => decide); (case tph2 => exact SRC1.out); (case tph3 => intro u hu; simp at hu; subst hu; rfl); (case tpc1 => unfold maxLen; omega); (case tpc2 => omega); (case tpc3 => exact HB0.out.size); intro vz wz hownZ hgrowZ hatZ; have hRZ : RowU w.heap.size wz vz 1 [s.data.toList] := (by unfold RowU; rw [List.map_cons, List.map_nil, enc_data]; exact hownZ); have HR0 := Lib.hid hRZ; have HB1 := Lib.hid (HB0.out.grown hgrowZ HB0.out.size (fun y e => (by cases e))); have hoz := (hgrowZ.block _ (Array.getElem?_eq_some_iff.1 HOLD.out).1 (fun e => (by cases e))).trans HOLD.out; have ca3 : wz.cell? ⟨w.heap.size, 3, none⟩ = some (Value.slice ka ks.length kc) := (by rw [Lib.cell_of_heap hoz]; rfl); clear hownZ hgrowZ hatZ hRZ hoz HB0)
    obtain ⟨az, cz, hvz⟩ := HR0.out.slice
    subst hvz
    go_loopw [3, 17] (fun vn vi wr => ∃ (k : Nat) (a : Option Addr) (c : Nat), k ≤ ks.length ∧ vi = .int .i64 k ∧ vn = .slice a (hd ++ namesL (ks.take k)).length c ∧ Hid (RowU w.heap.size wr (.slice a (hd ++ namesL (ks.take k)).length c) (hd ++ namesL (ks.take k)).length (hd ++ namesL (ks.take k))) ∧ Hid (Below w.heap.size w wr)) (fun _ vi _ => ks.length - (intOf vi).toNat)
    case atStart => exact ⟨0, az, cz, Nat.zero_le _, rfl, by rw [HS.out]; simp [namesL], by refine Lib.hid ?_; rw [HS.out]; simpa [namesL] using HR0.out, HB1⟩
    case round =>
      obtain ⟨k, a, c, hk, rfl, rfl, hC, hb⟩ := hrel
      clear HR0 HB1 ca3
      have hdk := HNB.out k
      have hlen : (hd ++ namesL (ks.take k)).length ≤ 30 := by rw [List.length_append]; omega
      rcases Nat.lt_or_ge k ks.length with hlt | hge
      · have k1 : (k : Int) < ks.length := by omega
        have k0 : (0 : Int) ≤ k := by omega
        obtain ⟨b, off, rfl, -, hbl, hrow⟩ := (HK.out.kept (same_of_below (N := All) hb.out)).cells (by omega)
        obtain ⟨f, ⟨y0, y1, y2, y3, y4⟩, ht⟩ := hrow k hlt
        have hXB : Below wr.heap.size wr (wr.alloc (.cells #[.int .i64 f.op, .int .i64 f.num, .string f.name, .slice f.ka f.kl f.kc, .slice f.ma f.ml f.mc] 32)) := (Below.refl _ _).alloc (Nat.le_refl _) _
        have hcall := Lib.hid (IH.out ks[k] (List.getElem_mem _) f _ (ht.kept (same_of_below hXB)) (HOK.out _ (List.getElem_mem _)))
        have HXB := Lib.hid hXB
        have HSN : Hid (hd ++ namesL (ks.take (k + 1)) = (hd ++ namesL (ks.take k)) ++ namesT ks[k]) := by refine Lib.hid ?_; rw [namesL_take hlt, List.append_assoc]
        have hcl : (namesT ks[k]).length ≤ 30 := by
          have h1 := names_len _ ks[k] (Nat.le_refl _)
          have h2 := okP_w (HOK.out _ (List.getElem_mem hlt))
          omega
        unfold Fld.val NamesP at hcall
        generalize hd ++ namesL (ks.take k) = DS at *
        generalize namesT ks[k] = CT at *
        clear hrow ht hbl hXB
        go_wp2_with fail
        refine hcall.out.mono ?_
        rintro e w2 ⟨a', n', c', rfl, rfl, hC', d2⟩
        have HD2 := Lib.hid (HXB.out.trans (d2.mono HXB.out.size))
        have HB2 := Lib.hid (hb.out.trans (HD2.out.mono hb.out.size))
        have hbz := HB2.out.size
        have HR2 := Lib.hid (hC.out.below HD2.out)
        have HS2 := Lib.hid (src_row hC')
        clear d2 hcall hC' hC hb y0 y1 y2 y3 y4
        go_wp2_with (at_builtin; refine wpList_append_src ?ap1 ?aps ?apx 27 ?ap2 w.heap.size 9 i0 (.string ⟨#[]⟩) 1 16 ?ap3 ?ap4 ?ap5 ?ap6 ?ap7 ?ap8 ?ap9 (.slice a DS.length c) DS.length (DS.map encStr) ?ap10 ?aph1 a' CT.length c' (CT.map encStr) ?ap11 ?aph2 ?aph3 ?apc1 ?apc2 ?apc3 ?_; (case ap1 => rfl); (case ap2 => rfl); (case ap10 => rfl); (case ap11 => rfl); (case aph1 => exact HR2.out); (case ap3 => exact Tryz.underlying27); (case ap4 => exact hi); (case ap5 => exact hz0); (case ap6 => exact hz1); (case ap7 => exact hz2); (case ap8 => rfl); (case ap9 => decide); (case aph2 => exact HS2.out); (case aph3 => exact one_map _); (case apc1 => unfold maxLen; omega); (case apc2 => omega); (case apc3 => exact hbz); intro vz wz hownZ hgrowZ hatZ)
        all_goals
          have hRZ : RowU w.heap.size wz vz (DS.length + CT.length) (DS ++ CT) := by unfold RowU; rw [List.map_append]; exact hownZ
          obtain ⟨az, cz, rfl⟩ := hRZ.slice
          have hbN : Below w.heap.size w wz := HB2.out.grown hgrowZ hbz (fun y e => (World.ownsRow.lt HR2.out y e).1)
          have HRZ := Lib.hid hRZ
          have HBN := Lib.hid hbN
          clear hownZ hgrowZ hatZ hRZ hbN HR2 HS2
          go_wp2_with fail
          go_roundw
          case rel => exact ⟨k + 1, az, cz, by omega, by go_num, by rw [HSN.out, List.length_append], by rw [HSN.out, List.length_append]; exact HRZ, HBN⟩
          case measure => simp [intOf]; omega
      · obtain rfl : k = ks.length := by omega
        rw [List.take_length] at hC ⊢
        go_wp2
        go_ret
        exact ⟨a, _, c, rfl, rfl, hC.out, hb.out⟩
  | false =>
    have ho2 : ¬ o = 2 := by simpa using ho
    have HS : Hid (hd = []) := by refine Lib.hid ?_; rw [HHD.out, if_neg ho2]
    clear ho2
    go_enter Tryz.func48, Tryz.ntmps48
    have HB0 := HA
    have HR0 : Hid (RowU w.heap.size (w.alloc (.cells #[.int .i64 o, .int .i64 n, .string s, .slice ka ks.length kc, .slice ma ms.length mc] 32)) (.slice none 0 0) 0 []) := World.ownsRow_nil _ _ _ _
    go_wp2_with fail
    go_loopw [3, 17] (fun vn vi wr => ∃ (k : Nat) (a : Option Addr) (c : Nat), k ≤ ks.length ∧ vi = .int .i64 k ∧ vn = .slice a (hd ++ namesL (ks.take k)).length c ∧ Hid (RowU w.heap.size wr (.slice a (hd ++ namesL (ks.take k)).length c) (hd ++ namesL (ks.take k)).length (hd ++ namesL (ks.take k))) ∧ Hid (Below w.heap.size w wr)) (fun _ vi _ => ks.length - (intOf vi).toNat)
    case atStart => exact ⟨0, none, 0, Nat.zero_le _, rfl, by rw [HS.out]; simp [namesL], by refine Lib.hid ?_; rw [HS.out]; simpa [namesL] using HR0.out, HB0⟩
    case round =>
      obtain ⟨k, a, c, hk, rfl, rfl, hC, hb⟩ := hrel
      clear HR0 HB0
      have hdk := HNB.out k
      have hlen : (hd ++ namesL (ks.take k)).length ≤ 30 := by rw [List.length_append]; omega
      rcases Nat.lt_or_ge k ks.length with hlt | hge
      · have k1 : (k : Int) < ks.length := by omega
        have k0 : (0 : Int) ≤ k := by omega
        obtain ⟨b, off, rfl, -, hbl, hrow⟩ := (HK.out.kept (same_of_below (N := All) hb.out)).cells (by omega)
        obtain ⟨f, ⟨y0, y1, y2, y3, y4⟩, ht⟩ := hrow k hlt
        have hXB : Below wr.heap.size wr (wr.alloc (.cells #[.int .i64 f.op, .int .i64 f.num, .string f.name, .slice f.ka f.kl f.kc, .slice f.ma f.ml f.mc] 32)) := (Below.refl _ _).alloc (Nat.le_refl _) _
        have hcall := Lib.hid (IH.out ks[k] (List.getElem_mem _) f _ (ht.kept (same_of_below hXB)) (HOK.out _ (List.getElem_mem _)))
        have HXB := Lib.hid hXB
        have HSN : Hid (hd ++ namesL (ks.take (k + 1)) = (hd ++ namesL (ks.take k)) ++ namesT ks[k]) := by refine Lib.hid ?_; rw [namesL_take hlt, List.append_assoc]
        have hcl : (namesT ks[k]).length ≤ 30 := by
          have h1 := names_len _ ks[k] (Nat.le_refl _)
          have h2 := okP_w (HOK.out _ (List.getElem_mem hlt))
          omega
        unfold Fld.val NamesP at hcall
        generalize hd ++ namesL (ks.take k) = DS at *
        generalize namesT ks[k] = CT at *
        clear hrow ht hbl hXB
        go_wp2_with fail
        refine hcall.out.mono ?_
        rintro e w2 ⟨a', n', c', rfl, rfl, hC', d2⟩
        have HD2 := Lib.hid (HXB.out.trans (d2.mono HXB.out.size))
        have HB2 := Lib.hid (hb.out.trans (HD2.out.mono hb.out.size))
        have hbz := HB2.out.size
        have HR2 := Lib.hid (hC.out.below HD2.out)
        have HS2 := Lib.hid (src_row hC')
        clear d2 hcall hC' hC hb y0 y1 y2 y3 y4
        go_wp2_with (at_builtin; refine wpList_append_src ?aq1 ?aqs ?aqx 27 ?aq2 w.heap.size 9 i0 (.string ⟨#[]⟩) 1 16 ?aq3 ?aq4 ?aq5 ?aq6 ?aq7 ?aq8 ?aq9 (.slice a DS.length c) DS.length (DS.map encStr) ?aq10 ?aqh1 a' CT.length c' (CT.map encStr) ?aq11 ?aqh2 ?aqh3 ?aqc1 ?aqc2 ?aqc3 ?_; (case aq1 => rfl); (case aq2 => rfl); (case aq10 => rfl); (case aq11 => rfl); (case aqh1 => exact HR2.out); (case aq3 => exact Tryz.underlying27); (case aq4 => exact hi); (case aq5 => exact hz0); (case aq6 => exact hz1); (case aq7 => exact hz2); (case aq8 => rfl); (case aq9 => decide); (case aqh2 => exact HS2.out); (case aqh3 => exact one_map _); (case aqc1 => unfold maxLen; omega); (case aqc2 => omega); (case aqc3 => exact hbz); intro vz wz hownZ hgrowZ hatZ)
        all_goals
          have hRZ : RowU w.heap.size wz vz (DS.length + CT.length) (DS ++ CT) := by unfold RowU; rw [List.map_append]; exact hownZ
          obtain ⟨az, cz, rfl⟩ := hRZ.slice
          have hbN : Below w.heap.size w wz := HB2.out.grown hgrowZ hbz (fun y e => (World.ownsRow.lt HR2.out y e).1)
          have HRZ := Lib.hid hRZ
          have HBN := Lib.hid hbN
          clear hownZ hgrowZ hatZ hRZ hbN HR2 HS2
          go_wp2_with fail
          go_roundw
          case rel => exact ⟨k + 1, az, cz, by omega, by go_num, by rw [HSN.out, List.length_append], by rw [HSN.out, List.length_append]; exact HRZ, HBN⟩
          case measure => simp [intOf]; omega
      · obtain rfl : k = ks.length := by omega
        rw [List.take_length] at hC ⊢
        go_wp2
        go_ret
        exact ⟨a, _, c, rfl, rfl, hC.out, hb.out⟩
theorem namesIC : ∀ (k : Nat) (t : Tr), wT t ≤ k → NamesAtI t
  | 0, .node o n s ks ms, hw => by rw [wT] at hw; omega
  | k + 1, .node o n s ks ms, hw => by
    rw [wT] at hw
    exact namesIN o n s ks ms (fun t ht => namesIC k t (by have := wL_mem ht; omega))
end Go.Proofs.YtgoaajnppadmjaaGreatDoor
