/-
  The texts of ops that the laws draw: small, with few noughts.
-/
import Derived.Test.YtlfmhhdlandcjaaDoorDrawOps
import Derived.Test.YtlfmhhdlandcjaaDoorBendC
namespace Go.Proofs.YtlfmhhdlandcjaaDoor
open Go.RowKit
set_option linter.unusedVariables false
set_option linter.unusedSimpArgs false

theorem isRow_kept {k : IntKind} {w w' : World} {a : Option Addr} {len cap : Nat} {zs : List Int} (h : IsRow k w a len cap zs) (hb : Below w.heap.size w w') : IsRow k w' a len cap zs := by
  rcases h with h | ⟨x, h1, h2, h3, h4, h5, h6⟩
  · exact Or.inl h
  · exact Or.inr ⟨x, h1, h2, h3, h4, fun i hi => (hb.cell (p := x.add i) (World.block_lt_of_cell? w _ (h5 i hi))).trans (h5 i hi), h6⟩
def bendTexts : List ByteArray := [⟨#[58]⟩, ⟨#[44]⟩, ⟨#[48]⟩, ⟨#[45]⟩, ⟨#[120]⟩]
def bendAt (i : Nat) : ByteArray := bendTexts.getD i ByteArray.empty
theorem bendAt_ok (i : Nat) (h : i < 5) : (bendAt i).size = 1 ∧ n0 (bendAt i).data.toList ≤ 1 := by
  have : ∀ i, i < 5 → (bendAt i).size = 1 ∧ n0 (bendAt i).data.toList ≤ 1 := by decide
  exact this i h
def DrawTextPost (w : World) (e : Ending) (w' : World) : Prop := ∃ t : ByteArray, e = .returned (.string t) ∧ t.size ≤ 1000 ∧ Hid (n0 t.data.toList ≤ 11) ∧ Below w.heap.size w w'
theorem n0_sub (l : List UInt8) (k : Nat) : n0 (l.take k) + n0 (l.drop k) = n0 l := by rw [← n0_app, List.take_append_drop]
theorem bent_ok {s t : ByteArray} (hs : s.size ≤ 300) (h0 : n0 s.data.toList ≤ 10) (h : BentOf s 5 bendAt t) : t.size ≤ 1000 ∧ n0 t.data.toList ≤ 11 := by
  rcases h with rfl | ⟨k, i, hk, hi, rfl⟩
  · exact ⟨by omega, by omega⟩
  · obtain ⟨b1, b2⟩ := bendAt_ok i hi
    have e : (s.extract 0 k ++ bendAt i ++ s.extract k s.size).data.toList = s.data.toList.take k ++ ((bendAt i).data.toList ++ s.data.toList.drop k) := by
      simp only [ByteArray.data_append, Array.toList_append, Lib.extract_data, List.drop_zero, Nat.sub_zero, List.append_assoc]
      rw [List.take_of_length_le (i := s.size - k) (by simp)]
    refine ⟨?_, ?_⟩
    · simp only [ByteArray.size_append, ByteArray.size_extract, b1]; omega
    · rw [e, n0_app, n0_app]
      have := n0_sub s.data.toList k
      omega
theorem textO_few {acc : List OpD} (hl : acc.length ≤ 3) (hd : ∀ d ∈ acc, DrawnOp d) : (textO acc.length (dsL acc)).size ≤ 300 ∧ n0 (textO acc.length (dsL acc)).data.toList ≤ 10 := by
  unfold textO
  split
  · rename_i hg
    have hm : ∀ i, i < acc.length → DrawnOp (dsL acc i) := fun i hi => hd _ (by rw [dsL, List.getD_eq_getElem?_getD, List.getElem?_eq_getElem hi]; exact List.getElem_mem hi)
    have a := opsB_size (ds := dsL acc) acc.length (fun i hi => (hg.2 i hi).1)
    have b := n0_opsB (ds := dsL acc) acc.length (fun i hi => ⟨(hg.2 i hi).1, hm i hi⟩)
    exact ⟨by omega, by omega⟩
  · exact ⟨by decide, by decide⟩
set_option maxRecDepth 100000 in
set_option maxHeartbeats 4000000 in
theorem drawOpsT (a0 : Option Addr) (len cap : Nat) (z : List Int) (w : World) (w0 : IsRow .u8 w a0 len cap z) :
    Calls Tryd.prog 5 #[.slice a0 len cap] w (DrawTextPost w) := by
  have W0 := Lib.hid w0
  go_enter Tryd.func5, Tryd.ntmps5
  go_wp2_with fail
  refine (opened a0 len cap z _ w0).mono ?_
  rintro e w1 ⟨rfl, hr1, hb1, hz1⟩
  clear w0
  have HR1 := Lib.hid hr1
  have HB1 := Lib.hid hb1
  have hzz := hb1.size
  have hw1 : IsRow .u8 w1 a0 len cap z := isRow_kept W0.out hb1
  have KD := Lib.hid (drawOps a0 len cap z w1 hw1)
  clear hr1 hb1 hw1
  go_wp2_with fail
  refine KD.out.mono ?_
  rintro e w2 ⟨acc, a, c, hl, hd, rfl, hown, hb2⟩
  have HB2 := Lib.hid (HB1.out.trans (hb2.mono hzz))
  have hr2 : Rd w.heap.size w2 w.heap.size 0 := HR1.out.kept (hb2.mono hzz) (hb2.block _ HR1.out.le.2)
  have HR2 := Lib.hid hr2
  have HOP := Lib.hid (ops_own' hown)
  obtain ⟨tz, tn⟩ := textO_few hl hd.out
  have HTN := Lib.hid tn
  have hlg : ∀ i, i < acc.length → (dsL acc i).leg.size ≤ maxLen := fun i hi => by
    have := (hd.out (dsL acc i) (by rw [dsL, List.getD_eq_getElem?_getD, List.getElem?_eq_getElem hi]; exact List.getElem_mem hi)).1
    unfold maxLen; omega
  have KW := Lib.hid (writeS a acc.length c (dsL acc) w2 HOP.out hlg (by omega))
  clear hd hown hb2 hr2 tn hlg KD
  go_wp2_with fail
  refine KW.out.mono ?_
  rintro e w3 ⟨o, rfl, ho, hb3⟩
  obtain rfl := textO_of ho.out
  have hzw2 : w.heap.size ≤ w2.heap.size := HB2.out.size
  have HB3 := Lib.hid (HB2.out.trans (hb3.mono hzw2))
  have hzw3 : w.heap.size ≤ w3.heap.size := HB3.out.size
  have HR3 := Lib.hid (HR2.out.kept (hb3.mono hzw2) (hb3.block _ HR2.out.le.2))
  have hb3l := HR3.out.le.2
  have HBA := Lib.hid (HB3.out.alloc hzw3 (.cells #[.string ⟨#[58]⟩, .string ⟨#[44]⟩, .string ⟨#[48]⟩, .string ⟨#[45]⟩, .string ⟨#[120]⟩] 9))
  have KB := Lib.hid (bendC w.heap.size w.heap.size 0 5 w3.heap.size 5 3 (textO acc.length (dsL acc)) bendAt _ (rd_alloc HR3.out (.cells #[.string ⟨#[58]⟩, .string ⟨#[44]⟩, .string ⟨#[48]⟩, .string ⟨#[45]⟩, .string ⟨#[120]⟩] 9)) (by omega) (by omega) (by omega) (by omega) (by omega) (by omega) (fun i hi => lits_at _ _ rfl bendTexts rfl i hi) (by omega) (fun i hi => by rw [(bendAt_ok i hi).1]; omega))
  clear ho hb3 KW HOP HR1 HR2
  go_wp2_with fail
  refine KB.out.mono ?_
  rintro e w4 ⟨t, ht, rfl, hg4⟩
  obtain ⟨t1, t2⟩ := bent_ok tz HTN.out ht.out
  have HB4 := Lib.hid (HBA.out.grown hg4 HBA.out.size (fun k e => by cases e; exact Nat.le_refl _))
  have HT2 := Lib.hid t2
  clear ht hg4 KB t2
  go_wp2
  go_ret
  exact ⟨t, rfl, t1, HT2.out, HB4.out⟩
end Go.Proofs.YtlfmhhdlandcjaaDoor
