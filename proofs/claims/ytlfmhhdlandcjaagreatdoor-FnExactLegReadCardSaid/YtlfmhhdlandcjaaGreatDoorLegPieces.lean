/-
  What the model reads of a leg's text: by its pieces; and the model's l6Nums.
-/
import Derived.Test.YtlfmhhdlandcjaaGreatDoorLegBody
import Derived.Test.YtlfmhhdlandcjaaGreatDoorCut3
import Derived.Test.YtlfmhhdlandcjaaGreatDoorNum
namespace Go.Proofs.YtlfmhhdlandcjaaGreatDoor
open Go.RowKit
set_option linter.unusedVariables false
set_option linter.unusedSimpArgs false

/-- The model takes five numbers at most. -/
def nums5 (l : List UInt8) : List Int := ((splitB 44 l).take 5).map numV
theorem nums5_ints {l : List Int} (h0 : 1 ≤ l.length) (h5 : l.length ≤ 5) (h : SmallL l) : nums5 (intsT l) = l := by
  have e : splitB 44 (intsT l) = l.map Lib.itoa := by
    cases l with
    | nil => simp at h0
    | cons x r => rw [intsT, split_tail r _ (itoa_no (by decide))]; rfl
  unfold nums5
  rw [e, List.take_of_length_le (by simpa using h5), List.map_map]
  conv => rhs; rw [← List.map_id l]
  apply List.map_congr_left
  intro x hx
  have := h x hx
  exact numV_itoa this.1 (by omega)
theorem few_bids {x : Leg8} (h : OkLeg (leg8D x)) : x.lb.length ≤ 5 := by
  obtain ⟨-, ⟨b1, b2, b3, b4, b5, b6, b7, b8⟩, -, -⟩ := h
  have m : (leg8D x).nB ≤ 5 := by omega
  exact m
def pieces5 (x0 x1 x2 x3 x4 x5 x6 x7 : ByteArray) : Leg8 := ⟨x0, x1, x2, numV x3.data.toList, numV x4.data.toList, nums5 x5.data.toList, nums5 x6.data.toList, nums5 x7.data.toList⟩
theorem l5_same {s x0 x1 x2 x3 x4 x5 x6 x7 : ByteArray} (hw : [x0, x1, x2, x3, x4, x5, x6, x7].map (·.data.toList) = splitB 32 s.data.toList) {x : Leg8} (h1 : OkLeg (leg8D x)) (h2 : legB (leg8D x) = s) : pieces5 x0 x1 x2 x3 x4 x5 x6 x7 = x := by
  have p := parts_of h1
  have q := few_bids h1
  rw [← h2, split_leg h1] at hw
  simp only [List.map_cons, List.map_nil, List.cons.injEq, and_true] at hw
  obtain ⟨b0, b1, b2, b3, b4, b5, b6, b7⟩ := hw
  have e0 : x0 = x.nm := ByteArray.ext (Array.ext' b0)
  have e1 : x1 = x.fr := ByteArray.ext (Array.ext' b1)
  have e2 : x2 = x.to := ByteArray.ext (Array.ext' b2)
  have l1 := p.nL
  have l2 := p.nS
  have l3 := p.nB
  have d1 := p.dep
  have d2 := p.arr
  unfold pieces5
  rw [b3, b4, b5, b6, b7, numV_itoa d1.1 (by omega), numV_itoa d2.1 (by omega), nums5_ints (by omega) (by omega) p.sL, nums5_ints (by omega) (by omega) p.sS, nums5_ints l3 q p.sB, e0, e1, e2]
theorem l5_yes {s x0 x1 x2 x3 x4 x5 x6 x7 : ByteArray} (hw : [x0, x1, x2, x3, x4, x5, x6, x7].map (·.data.toList) = splitB 32 s.data.toList) {d : LegD} (he : (legO d).toList = s.toList) : OkLeg d ∧ legB d = s := by
  rw [Lib.toList_data, Lib.toList_data] at he
  unfold legO at he
  split at he
  · rename_i q; exact ⟨q, ByteArray.ext (Array.ext' he)⟩
  · have hs : s.data.toList = [] := by rw [← he]
    rw [hs] at hw
    simp [splitB] at hw
theorem l5_no {s x0 x1 x2 x3 x4 x5 x6 x7 : ByteArray} (hw : [x0, x1, x2, x3, x4, x5, x6, x7].map (·.data.toList) = splitB 32 s.data.toList) (hne : (legO (leg8D (pieces5 x0 x1 x2 x3 x4 x5 x6 x7))).toList ≠ s.toList) : ¬ IsLegT s := by
  rintro ⟨x, h1, h2⟩
  rw [l5_same hw h1 h2] at hne
  apply hne
  unfold legO
  rw [if_pos h1, h2]
def accN (ws : List ByteArray) (k : Nat) : List Int := (ws.take k).map fun x => numV x.data.toList
theorem accN_len {ws : List ByteArray} {k : Nat} (h : k ≤ ws.length) : (accN ws k).length = k := by simp [accN]; omega
theorem accN_snoc {ws : List ByteArray} {k : Nat} (h : k < ws.length) : accN ws (k + 1) = accN ws k ++ [numV (ws[k]'h).data.toList] := by
  unfold accN
  rw [List.take_succ_eq_append_getElem h, List.map_append]; rfl
theorem accN_end {ws : List ByteArray} {l : List UInt8} {k : Nat} (hw : ws.map (·.data.toList) = splitB 44 l) (hk : k = ws.length ∧ k ≤ 5 ∨ k = 5) : accN ws k = nums5 l := by
  have e : nums5 l = accN ws 5 := by
    unfold nums5 accN
    rw [← hw, ← List.map_take, List.map_map]; rfl
  rw [e]
  rcases hk with ⟨rfl, h⟩ | rfl
  · unfold accN
    rw [List.take_of_length_le (Nat.le_refl _), List.take_of_length_le h]
  · rfl
theorem cellsI_snoc' (ws : List ByteArray) {k : Nat} (h : k < ws.length) : cellsI (accN ws (k + 1)) = cellsI (accN ws k) ++ [.int .i64 (numV (ws[k]'h).data.toList)] := by
  rw [accN_snoc h, cellsI_snoc]
theorem own_addr {a : Option Addr} {n c g : Nat} (h : (Value.slice a n c).ownBlock = some g) : ∃ o sp, a = some ⟨g, o, sp⟩ := by
  cases a with
  | none => simp [Value.ownBlock] at h
  | some x => obtain ⟨b, o, sp⟩ := x; simp [Value.ownBlock] at h; subst h; exact ⟨o, sp, rfl⟩
def Nums6 (s : ByteArray) (w : World) (e : Ending) (w' : World) : Prop :=
  ∃ (g cap : Nat), e = .returned (.slice (some ⟨g, 0, none⟩) (nums5 s.data.toList).length cap) ∧ w'.ownsRow w.heap.size 3 1 (.slice (some ⟨g, 0, none⟩) (nums5 s.data.toList).length cap) (nums5 s.data.toList).length (cellsI (nums5 s.data.toList)) ∧ 1 ≤ (nums5 s.data.toList).length ∧ (nums5 s.data.toList).length ≤ 5 ∧ Below w.heap.size w w'
set_option maxRecDepth 100000 in
set_option maxHeartbeats 8000000 in
theorem nums6C (s : ByteArray) (w : World) (hs : s.size ≤ 1048576) :
    Calls Tryz.prog 19 #[.string s] w (Nums6 s w) := by
  obtain ⟨i0, hi, hz0, hz1, hz2⟩ := info_parts infoIntR
  go_enter Tryz.func19, Tryz.ntmps19
  go_wp2_with fail
  refine (cut3C 44 44 rfl s w hs).mono ?_
  rintro e w1 ⟨ws, gw, cw, hws, hl1, hl2, hwsz, rfl, hown, hb⟩
  have HWS : Hid (ws.map (·.data.toList) = splitB 44 s.data.toList) := hws
  have HWZ : Hid (∀ x ∈ ws, x.size ≤ s.size) := hwsz
  have hzw1 : w.heap.size ≤ w1.heap.size := hb.size
  have hgw := (hown.lt gw rfl).2
  have hown0 : (w1.alloc (.cells #[] 3)).ownsRow w.heap.size 3 1 (.slice (some ⟨w1.heap.size, 0, none⟩) 0 0) 0 [] := World.ownsRow_made w1 #[] 0 hzw1 (by unfold maxLen; omega) rfl
  have hbA : Below w.heap.size w (w1.alloc (.cells #[] 3)) := hb.alloc hzw1 _
  have hwA := hown.alloc (.cells #[] 3)
  clear hws hwsz hown hb
  go_wp2_with fail
  go_loopw [4, 5] (fun vo vi wr => ∃ (k : Nat) (ao : Option Addr) (co : Nat), k ≤ 5 ∧ k ≤ ws.length ∧ vi = .int .i64 k ∧ vo = .slice ao k co ∧ wr.ownsRow w.heap.size 3 1 (.slice ao k co) k (cellsI (accN ws k)) ∧ wr.ownsRow w.heap.size 9 1 (.slice (some ⟨gw, 0, none⟩) ws.length cw) ws.length (ws.map Value.string) ∧ Hid (∀ g o sp, ao = some ⟨g, o, sp⟩ → g ≠ gw) ∧ Below w.heap.size w wr) (fun _ vi _ => 6 - (intOf vi).toNat)
  case atStart => exact ⟨0, _, _, by omega, by omega, rfl, rfl, hown0, hwA, Lib.hid (by intro g o sp e; cases e; exact Nat.ne_of_gt hgw), hbA⟩
  case round =>
    clear hown0 hwA hbA
    obtain ⟨k, ao, co, hk5, hkw, rfl, rfl, hown, hwr, hne0, hb⟩ := hrel
    have HOW := Lib.hid hown
    have HWR := Lib.hid hwr
    have HNE := Lib.hid hne0
    have HB := Lib.hid hb
    have hzr : w.heap.size ≤ wr.heap.size := hb.size
    clear hown hwr hne0 hb
    by_cases hk : k < ws.length ∧ k ≤ 4
    · obtain ⟨k1, k2⟩ := hk
      have g1 : decide ((k : Int) < (ws.length : Int)) = true := decide_eq_true (by omega)
      have g1n : decide (k < ws.length) = true := decide_eq_true k1
      have g2 : decide ((k : Int) ≤ 4) = true := decide_eq_true (by omega)
      have g2n : decide (k ≤ 4) = true := decide_eq_true k2
      have i1 : (k : Int) < (ws.length : Int) := by omega
      have i0' : (0 : Int) ≤ (k : Int) := by omega
      have y0 : wr.cell? ⟨gw, k, none⟩ = some (.string (ws[k]'k1)) := by
        rw [HWR.out.cellAt k (by omega)]; simp [k1]
      have hxz : (ws[k]'k1).size ≤ s.size := HWZ.out _ (List.getElem_mem k1)
      have hcs := Lib.hid (cellsI_snoc' ws k1)
      generalize ws[k]'k1 = x at *
      have KN := Lib.hid (numAt x wr (by unfold maxLen; omega))
      have e0 : IntKind.i64.wrap ((k : Int) + 1) = (k : Int) + 1 := IntWalk.i64_in _ (by omega)
      go_wp2_with fail
      refine KN.out.mono ?_
      rintro e w2 ⟨n', rfl, hn', -, -, rfl⟩
      have HN := Lib.hid hn'.out
      clear hn' KN y0
      have HA := Lib.hid (HOW.out.alloc (.cells #[.int .i64 n'] 3))
      have HWA := Lib.hid (HWR.out.alloc (.cells #[.int .i64 n'] 3))
      have hX : Hid ((wr.alloc (.cells #[.int .i64 n'] 3)).heap[wr.heap.size]? = some (.cells #[.int .i64 n'] 3 (0, 0))) := heap_alloc_new wr _
      have hzA : w.heap.size ≤ (wr.alloc (.cells #[.int .i64 n'] 3)).heap.size := by simp only [World.size_alloc]; omega
      have HBA := Lib.hid (HB.out.alloc hzr (.cells #[.int .i64 n'] 3))
      have hgwl := (HWA.out.lt gw rfl).2
      go_wp2_with (at_builtin; refine wpList_append_lies _ rfl _ _ 22 rfl w.heap.size 3 i0 (.int .i64 0) 1 8 Tryz.underlying22 hi hz0 hz1 hz2 rfl (by decide) (.slice ao k co) k (cellsI (accN ws k)) rfl HA.out ⟨wr.heap.size, 0, none⟩ 1 1 [.int .i64 n'] rfl rfl (World.news_of_block hX.out) (by intro u hu; simp at hu; subst hu; rfl) (by decide) (by unfold maxLen; omega) (by omega) hzA _ rfl ?_; intro g5 cap5 w5 hown5 hg5 hgg5 hlt5)
      have hV := HA.out.lt
      have hbs : Below w.heap.size (wr.alloc (.cells #[.int .i64 n'] 3)) w5 := (Below.refl _ _).grown hg5 hzA (fun y e => (hV y e).1)
      have HBs := Lib.hid (HBA.out.trans hbs)
      have HO5 : Hid (w5.ownsRow w.heap.size 3 1 (.slice (some ⟨g5, 0, none⟩) (k + 1) cap5) (k + 1) (cellsI (accN ws (k + 1)))) := by
        show World.ownsRow _ _ _ _ _ _ _
        rw [hcs.out, ← HN.out]; exact hown5
      have HW5 := Lib.hid (HWA.out.kept hg5 (Or.inr (by
        intro e
        obtain ⟨o', sp', e'⟩ := own_addr e.symm
        exact HNE.out.out gw o' sp' e' rfl)))
      have HN5 : Hid (∀ g o sp, some (⟨g5, 0, none⟩ : Addr) = some ⟨g, o, sp⟩ → g ≠ gw) := by
        intro g o sp e
        cases e
        rcases hgg5 with h | h
        · obtain ⟨o', sp', e⟩ := own_addr h; exact HNE.out.out g5 o' sp' e
        · omega
      clear hown5 hg5 hgg5 hlt5 hV hbs HA HWA hX HBA HOW HWR
      go_wp2
      go_roundw
      case rel => exact ⟨k + 1, some ⟨g5, 0, none⟩, cap5, by omega, by omega, by go_num, by simp, HO5.out, HW5.out, HN5.out, HBs.out⟩
      case measure => simp [intOf]; omega
    · have hend : Hid (accN ws k = nums5 s.data.toList) := accN_end HWS.out (by omega)
      have hkl : (nums5 s.data.toList).length = k := by rw [← hend.out]; exact accN_len hkw
      have hpos : 1 ≤ k := by omega
      have hfin : Hid (∃ g, ao = some ⟨g, 0, none⟩) := by
        obtain ⟨g, c, e, _, _⟩ := HOW.out.form (by omega)
        obtain ⟨rfl, -, -⟩ : ao = some ⟨g, 0, none⟩ ∧ k = k ∧ co = c := by simpa using e
        exact ⟨g, rfl⟩
      obtain ⟨g, rfl⟩ := hfin.out
      have HPost : Hid (Nums6 s w (.returned (.slice (some ⟨g, 0, none⟩) k co)) wr) := by
        refine ⟨g, co, by rw [hkl], ?_, by omega, by omega, HB.out⟩
        rw [hkl, ← hend.out]; exact HOW.out
      clear hend hfin HOW HWR HB hkl
      rcases Nat.lt_or_ge k ws.length with c | c
      · have g1 : decide ((k : Int) < (ws.length : Int)) = true := decide_eq_true (by omega)
        have g1n : decide (k < ws.length) = true := decide_eq_true c
        have g2 : decide ((k : Int) ≤ 4) = false := decide_eq_false (by omega)
        have g2n : decide (k ≤ 4) = false := decide_eq_false (by omega)
        clear hk
        go_wp2
        go_ret
        exact HPost.out
      · have g1 : decide ((k : Int) < (ws.length : Int)) = false := decide_eq_false (by omega)
        have g1n : decide (k < ws.length) = false := decide_eq_false (by omega)
        clear hk
        go_wp2
        go_ret
        exact HPost.out
end Go.Proofs.YtlfmhhdlandcjaaGreatDoor
