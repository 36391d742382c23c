/-
  The model's LegRead.
-/
import Derived.Test.YtdaccpffdnbkiaaGreatDoorJ32
import Derived.Test.YtdaccpffdnbkiaaGreatDoorOrNoneL
import Derived.Test.YtdaccpffdnbkiaaGreatDoorJ23
namespace Go.Proofs.YtdaccpffdnbkiaaGreatDoor
open Go.RowKit
set_option linter.unusedVariables false
set_option linter.unusedSimpArgs false

/-- A region whose last operation stores into the box that the one ahead of it has made. -/
structure TB (m : Nat) (I : Nat → World → Prop) (S : Nat → World → Value → Prop) (M : Value → World → Prop) (k : Nat) (L : Nat → Bool) (f : Nat → Value) (W : World) : Prop where
  inv : L (m + 1) = false → I k W
  pre : ∀ i, i < m + 1 → L i = true → L (m + 1) = false → S i W (f i)
  done : L (m + 1) = true → M (f m) W
section
variable {m k : Nat} {I : Nat → World → Prop} {S : Nat → World → Value → Prop} {M : Value → World → Prop} {L : Nat → Bool} {f : Nat → Value} {W W' : World}
theorem TB.start (h : I 0 W) : TB m I S M 0 (fun _ => false) f W := ⟨fun _ => h, fun _ _ a => (by cases a), fun a => (by cases a)⟩
theorem TB.pre_op (h : TB m I S M k L f W) {i : Nat} {v : Value} (hi : i < m + 1) (hm : L (m + 1) = false) (hI : I (k + 1) W') (hS : ∀ j v, S j W v → S j W' v) (hv : S i W' v) : TB m I S M (k + 1) (upd L i true) (upd f i v) W' := by
  refine ⟨fun _ => hI, fun j hj hL _ => ?_, ?_⟩
  · by_cases e : j = i
    · subst e; rw [upd_self]; exact hv
    · rw [upd_ne _ _ e] at hL ⊢; exact hS _ _ (h.pre j hj hL hm)
  · rw [upd_ne _ _ (by omega), hm]; exact fun a => by cases a
theorem TB.end_op (v : Value) (hM : M (f m) W') : TB m I S M (k + 1) (upd L (m + 1) true) (upd f (m + 1) v) W' :=
  ⟨fun a => (by rw [upd_self] at a; cases a), fun _ _ _ a => (by rw [upd_self] at a; cases a), fun _ => by rw [upd_ne _ _ (by omega)]; exact hM⟩
end
theorem own_below' {W W' : World} {B n : Nat} {e : TypeId} {v : Value} {xs : List Value} (h : W.ownsRow B e 1 v n xs) (hb : Below W.heap.size W W') : W'.ownsRow B e 1 v n xs := h.kept (row := none) (grown_of_below hb) (Classical.em _)
theorem numsOwn {w : World} {B g cap : Nat} {l : List Int} (h : w.ownsRow B 3 1 (.slice (some ⟨g, 0, none⟩) l.length cap) l.length (cellsI l)) : Nums w (some ⟨g, 0, none⟩) l.length (fun i => l.getD i 0) := (numsR_of h (h.lt g rfl).2).nums
theorem ne_of_types {W : World} {gx g B cap n : Nat} {xs : List Value} {cs : Array Value} {i : Nat × Nat} (h : W.ownsRow B 3 1 (.slice (some ⟨g, 0, none⟩) n cap) n xs) (hx : W.heap[gx]? = some (.cells cs 25 i)) : gx ≠ g := by
  intro e
  subst e
  obtain ⟨g', cap', cur, hv, _, hh, _⟩ := h.2.resolve_left (by rintro ⟨q, _⟩; cases q)
  cases hv
  rw [hx] at hh
  cases hh
def SLm (gw cw B : Nat) (x0 x1 x2 x3 x4 x5 x6 x7 : ByteArray) (i : Nat) (W : World) (v : Value) : Prop := match i with
  | 0 => v = .slice (some ⟨gw, 0, none⟩) 8 cw
  | 1 => v = .pointer (some ⟨gw, 0, none⟩)
  | 2 => v = .string x0
  | 3 => v = .slice (some ⟨gw, 0, none⟩) 8 cw
  | 4 => v = .pointer (some ⟨gw, 1, none⟩)
  | 5 => v = .string x1
  | 6 => v = .slice (some ⟨gw, 0, none⟩) 8 cw
  | 7 => v = .pointer (some ⟨gw, 2, none⟩)
  | 8 => v = .string x2
  | 9 => v = .slice (some ⟨gw, 0, none⟩) 8 cw
  | 10 => v = .pointer (some ⟨gw, 3, none⟩)
  | 11 => v = .string x3
  | 12 => v = .int .i64 (numV x3.data.toList)
  | 13 => v = .slice (some ⟨gw, 0, none⟩) 8 cw
  | 14 => v = .pointer (some ⟨gw, 4, none⟩)
  | 15 => v = .string x4
  | 16 => v = .int .i64 (numV x4.data.toList)
  | 17 => v = .slice (some ⟨gw, 0, none⟩) 8 cw
  | 18 => v = .pointer (some ⟨gw, 5, none⟩)
  | 19 => v = .string x5
  | 20 => ∃ g cap : Nat, v = (.slice (some ⟨g, 0, none⟩) (nums5 x5.data.toList).length cap) ∧ W.ownsRow B 3 1 (.slice (some ⟨g, 0, none⟩) (nums5 x5.data.toList).length cap) (nums5 x5.data.toList).length (cellsI (nums5 x5.data.toList))
  | 21 => v = .slice (some ⟨gw, 0, none⟩) 8 cw
  | 22 => v = .pointer (some ⟨gw, 6, none⟩)
  | 23 => v = .string x6
  | 24 => ∃ g cap : Nat, v = (.slice (some ⟨g, 0, none⟩) (nums5 x6.data.toList).length cap) ∧ W.ownsRow B 3 1 (.slice (some ⟨g, 0, none⟩) (nums5 x6.data.toList).length cap) (nums5 x6.data.toList).length (cellsI (nums5 x6.data.toList))
  | 25 => v = .slice (some ⟨gw, 0, none⟩) 8 cw
  | 26 => v = .pointer (some ⟨gw, 7, none⟩)
  | 27 => v = .string x7
  | 28 => ∃ g cap : Nat, v = (.slice (some ⟨g, 0, none⟩) (nums5 x7.data.toList).length cap) ∧ W.ownsRow B 3 1 (.slice (some ⟨g, 0, none⟩) (nums5 x7.data.toList).length cap) (nums5 x7.data.toList).length (cellsI (nums5 x7.data.toList))
  | 29 => ∃ gL cL gS cS gB cB : Nat, v = .agg (rowG x0 x1 x2 (numV x3.data.toList) (numV x4.data.toList) 0 (.slice (some ⟨gL, 0, none⟩) (nums5 x5.data.toList).length cL) (.slice (some ⟨gS, 0, none⟩) (nums5 x6.data.toList).length cS) (.slice (some ⟨gB, 0, none⟩) (nums5 x7.data.toList).length cB)) ∧ W.ownsRow B 3 1 (.slice (some ⟨gL, 0, none⟩) (nums5 x5.data.toList).length cL) (nums5 x5.data.toList).length (cellsI (nums5 x5.data.toList)) ∧ W.ownsRow B 3 1 (.slice (some ⟨gS, 0, none⟩) (nums5 x6.data.toList).length cS) (nums5 x6.data.toList).length (cellsI (nums5 x6.data.toList)) ∧ W.ownsRow B 3 1 (.slice (some ⟨gB, 0, none⟩) (nums5 x7.data.toList).length cB) (nums5 x7.data.toList).length (cellsI (nums5 x7.data.toList))
  | 30 => ∃ gx : Nat, v = .pointer (some ⟨gx, 0, none⟩) ∧ W.heap[gx]? = some (.cells (rowG ⟨#[]⟩ ⟨#[]⟩ ⟨#[]⟩ 0 0 0 (.slice none 0 0) (.slice none 0 0) (.slice none 0 0)) 25 (0, 0)) ∧ B ≤ gx
  | _ => True
theorem SLm.kept {gw cw B : Nat} {x0 x1 x2 x3 x4 x5 x6 x7 : ByteArray} {i : Nat} {W W' : World} {v : Value} (h : SLm gw cw B x0 x1 x2 x3 x4 x5 x6 x7 i W v) (hb : Below W.heap.size W W') : SLm gw cw B x0 x1 x2 x3 x4 x5 x6 x7 i W' v := by
  match i, h with
  | 0, h | 1, h | 2, h | 3, h | 4, h | 5, h | 6, h | 7, h | 8, h | 9, h | 10, h | 11, h | 12, h | 13, h | 14, h | 15, h | 16, h | 17, h | 18, h | 19, h | 21, h | 22, h | 23, h | 25, h | 26, h | 27, h => exact h
  | 20, ⟨g, cap, h1, h2⟩ => exact ⟨g, cap, h1, own_below' h2 hb⟩
  | 24, ⟨g, cap, h1, h2⟩ => exact ⟨g, cap, h1, own_below' h2 hb⟩
  | 28, ⟨g, cap, h1, h2⟩ => exact ⟨g, cap, h1, own_below' h2 hb⟩
  | 29, ⟨gL, cL, gS, cS, gB, cB, h1, h2, h3, h4⟩ => exact ⟨gL, cL, gS, cS, gB, cB, h1, own_below' h2 hb, own_below' h3 hb, own_below' h4 hb⟩
  | 30, ⟨gx, h1, h2, h3⟩ => exact ⟨gx, h1, (hb.block gx (lt_heap h2)).trans h2, h3⟩
  | n + 31, _ => exact True.intro
def MLm (B : Nat) (w2 : World) (x0 x1 x2 x3 x4 x5 x6 x7 : ByteArray) (v : Value) (W : World) : Prop := ∃ (gx gL cL gS cS gB cB : Nat), v = .pointer (some ⟨gx, 0, none⟩) ∧ W.heap[gx]? = some (.cells (rowG x0 x1 x2 (numV x3.data.toList) (numV x4.data.toList) 0 (.slice (some ⟨gL, 0, none⟩) (nums5 x5.data.toList).length cL) (.slice (some ⟨gS, 0, none⟩) (nums5 x6.data.toList).length cS) (.slice (some ⟨gB, 0, none⟩) (nums5 x7.data.toList).length cB)) 25 (0, 0)) ∧ (W.ownsRow B 3 1 (.slice (some ⟨gL, 0, none⟩) (nums5 x5.data.toList).length cL) (nums5 x5.data.toList).length (cellsI (nums5 x5.data.toList)) ∧ W.ownsRow B 3 1 (.slice (some ⟨gS, 0, none⟩) (nums5 x6.data.toList).length cS) (nums5 x6.data.toList).length (cellsI (nums5 x6.data.toList)) ∧ W.ownsRow B 3 1 (.slice (some ⟨gB, 0, none⟩) (nums5 x7.data.toList).length cB) (nums5 x7.data.toList).length (cellsI (nums5 x7.data.toList))) ∧ B ≤ gx ∧ (gx ≠ gL ∧ gx ≠ gS ∧ gx ≠ gB) ∧ Below w2.heap.size w2 W
def SPostL (s : ByteArray) (w : World) (e : Ending) (w' : World) : Prop :=
  Below w.heap.size w w' ∧ ((Hid (¬ IsLegT s) ∧ e = .returned (.tuple #[.agg (rowG ⟨#[]⟩ ⟨#[]⟩ ⟨#[]⟩ 0 0 0 (.slice none 0 0) (.slice none 0 0) (.slice none 0 0)), .bool false])) ∨ ∃ (x : Leg8) (q : Pl), Hid (OkLeg (leg8D x) ∧ legB (leg8D x) = s) ∧ e = .returned (.tuple #[.agg (rowX x q), .bool true]) ∧ LegIn w' (leg8D x) (plP q))
set_option maxRecDepth 100000 in
set_option maxHeartbeats 32000000 in
theorem readML (s : ByteArray) (w : World) (hs : s.size ≤ 1048576) :
    Calls Tryz.prog 5 #[.string s] w (SPostL s w) := by
  go_enter Tryz.func5, Tryz.ntmps5
  go_wp2_with fail
  refine (cut3C 32 32 rfl s _ (by omega)).mono ?_
  rintro e w1 ⟨ws, gw, cw, hws, hl1, hl2, hwsz, rfl, hown, hb⟩
  have HA : Hid (Below w.heap.size w (w.alloc (.cells (rowG ⟨#[]⟩ ⟨#[]⟩ ⟨#[]⟩ 0 0 0 (.slice none 0 0) (.slice none 0 0) (.slice none 0 0)) 25))) := (Below.refl _ _).alloc (Nat.le_refl _) _
  have hX0 : (w.alloc (.cells (rowG ⟨#[]⟩ ⟨#[]⟩ ⟨#[]⟩ 0 0 0 (.slice none 0 0) (.slice none 0 0) (.slice none 0 0)) 25)).heap[w.heap.size]? = some (.cells (rowG ⟨#[]⟩ ⟨#[]⟩ ⟨#[]⟩ 0 0 0 (.slice none 0 0) (.slice none 0 0) (.slice none 0 0)) 25 (0, 0)) := heap_alloc_new w _
  have hX1 := (hb.block _ (lt_heap hX0)).trans hX0
  have hzA : w.heap.size ≤ (w.alloc (.cells (rowG ⟨#[]⟩ ⟨#[]⟩ ⟨#[]⟩ 0 0 0 (.slice none 0 0) (.slice none 0 0) (.slice none 0 0)) 25)).heap.size := HA.out.size
  have HB := Lib.hid (HA.out.trans (hb.mono hzA))
  have HX1 := Lib.hid hX1
  have HW0 := Lib.hid (ownMonoN hown hzA)
  have HWS : Hid (ws.map (·.data.toList) = splitB 32 s.data.toList) := hws
  have HWZ : Hid (∀ x ∈ ws, x.size ≤ s.size) := hwsz
  have hzw1 : w.heap.size ≤ w1.heap.size := HB.out.size
  clear hws hwsz hown hb hX0 hX1
  generalize (w.alloc (.cells (rowG ⟨#[]⟩ ⟨#[]⟩ ⟨#[]⟩ 0 0 0 (.slice none 0 0) (.slice none 0 0) (.slice none 0 0)) 25)) = wA at *
  by_cases h3 : ws.length = 8
  · obtain ⟨x0, x1, x2, x3, x4, x5, x6, x7, rfl⟩ : ∃ x0 x1 x2 x3 x4 x5 x6 x7, ws = [x0, x1, x2, x3, x4, x5, x6, x7] := by
      match ws, h3 with
      | [x0, x1, x2, x3, x4, x5, x6, x7], _ => exact ⟨x0, x1, x2, x3, x4, x5, x6, x7, rfl⟩
    have HX0' : Hid (x0.size ≤ 1048576) := by have := HWZ.out x0 (by simp); show _ ≤ _; omega
    have HX1' : Hid (x1.size ≤ 1048576) := by have := HWZ.out x1 (by simp); show _ ≤ _; omega
    have HX2' : Hid (x2.size ≤ 1048576) := by have := HWZ.out x2 (by simp); show _ ≤ _; omega
    have HX3' : Hid (x3.size ≤ 1048576) := by have := HWZ.out x3 (by simp); show _ ≤ _; omega
    have HX3 : Hid (x3.size ≤ maxLen) := by have := HX3'.out; show _ ≤ _; unfold maxLen; omega
    have HX4' : Hid (x4.size ≤ 1048576) := by have := HWZ.out x4 (by simp); show _ ≤ _; omega
    have HX4 : Hid (x4.size ≤ maxLen) := by have := HX4'.out; show _ ≤ _; unfold maxLen; omega
    have HX5' : Hid (x5.size ≤ 1048576) := by have := HWZ.out x5 (by simp); show _ ≤ _; omega
    have HX5 := HX5'
    have HX6' : Hid (x6.size ≤ 1048576) := by have := HWZ.out x6 (by simp); show _ ≤ _; omega
    have HX6 := HX6'
    have HX7' : Hid (x7.size ≤ 1048576) := by have := HWZ.out x7 (by simp); show _ ≤ _; omega
    have HX7 := HX7'
    have HWR : Hid (w1.ownsRow w.heap.size 9 1 (.slice (some ⟨gw, 0, none⟩) 8 cw) 8 [.string x0, .string x1, .string x2, .string x3, .string x4, .string x5, .string x6, .string x7]) := HW0.out
    clear h3 HW0 hl1 hl2
    go_upto_region 4 with fail
    refine wp_region_invK (by kernel_rfl) (fun kk L f W => TB 30 (fun _ W => Below w1.heap.size w1 W) (SLm gw cw w1.heap.size x0 x1 x2 x3 x4 x5 x6 x7) (MLm w1.heap.size w1 x0 x1 x2 x3 x4 x5 x6 x7) kk L f W) (by kernel_rfl) (TB.start ((Below.refl _ _).drew)) ?_
    apply Exists.intro
    apply And.intro
    · intro f
      simp only [over, List.set]
      exact rfl
    refine ⟨?hops, ?hend⟩
    case hops =>
      refine EachOp.cons ?_ (EachOp.cons ?_ (EachOp.cons ?_ (EachOp.cons ?_ (EachOp.cons ?_ (EachOp.cons ?_ (EachOp.cons ?_ (EachOp.cons ?_ (EachOp.cons ?_ (EachOp.cons ?_ (EachOp.cons ?_ (EachOp.cons ?_ (EachOp.cons ?_ (EachOp.cons ?_ (EachOp.cons ?_ (EachOp.cons ?_ (EachOp.cons ?_ (EachOp.cons ?_ (EachOp.cons ?_ (EachOp.cons ?_ (EachOp.cons ?_ (EachOp.cons ?_ (EachOp.cons ?_ (EachOp.cons ?_ (EachOp.cons ?_ (EachOp.cons ?_ (EachOp.cons ?_ (EachOp.cons ?_ (EachOp.cons ?_ (EachOp.cons ?_ (EachOp.cons ?_ (EachOp.cons ?_ (EachOp.nil))))))))))))))))))))))))))))))))
      · intro L ff kk ww hkk hJ hcl hLi hwt QQ' hQ
        try dsimp only
        have nm : L 31 = false := by
          cases hx : L 31 with
          | false => rfl
          | true =>
            have h31x := hx
            have h29x : L 29 = true := hcl 31 _ rfl h31x 29 (by decide)
            have h2x : L 2 = true := hcl 29 _ rfl h29x 2 (by decide)
            have h1x : L 1 = true := hcl 2 _ rfl h2x 1 (by decide)
            have h0x : L 0 = true := hcl 1 _ rfl h1x 0 (by decide)
            have h2 : L 0 = false := hLi
            rw [h0x] at h2; cases h2
        have hI := hJ.inv nm
        go_big_wp2_with fail
        refine hQ _ _ _ ?_ (hJ.pre_op (i := 0) (by decide) nm (hI) (fun j v h => h.kept (Below.refl _ _)) (rfl))
        first | rfl | (simp [upd]; done)
      · intro L ff kk ww hkk hJ hcl hLi hwt QQ' hQ
        try dsimp only
        have nm : L 31 = false := by
          cases hx : L 31 with
          | false => rfl
          | true =>
            have h31x := hx
            have h29x : L 29 = true := hcl 31 _ rfl h31x 29 (by decide)
            have h2x : L 2 = true := hcl 29 _ rfl h29x 2 (by decide)
            have h1x : L 1 = true := hcl 2 _ rfl h2x 1 (by decide)
            have h2 : L 1 = false := hLi
            rw [h1x] at h2; cases h2
        have hI := hJ.inv nm
        have c0' : ff 0 = _ := hJ.pre 0 (by decide) (hwt 0 (by decide)) nm
        go_big_wp2_with fail
        refine hQ _ _ _ ?_ (hJ.pre_op (i := 1) (by decide) nm (hI) (fun j v h => h.kept (Below.refl _ _)) (rfl))
        first | rfl | (simp [upd, c0']; done)
      · intro L ff kk ww hkk hJ hcl hLi hwt QQ' hQ
        try dsimp only
        have nm : L 31 = false := by
          cases hx : L 31 with
          | false => rfl
          | true =>
            have h31x := hx
            have h29x : L 29 = true := hcl 31 _ rfl h31x 29 (by decide)
            have h2x : L 2 = true := hcl 29 _ rfl h29x 2 (by decide)
            have h2 : L 2 = false := hLi
            rw [h2x] at h2; cases h2
        have hI := hJ.inv nm
        have y0 := (HWR.out.kept (row := none) (grown_of_below hI) (Or.inr (by simp [Value.ownBlock]))).cellAt 0 (by omega)
        simp only [List.getElem?_cons_zero, List.getElem?_cons_succ] at y0
        have c1' : ff 1 = _ := hJ.pre 1 (by decide) (hwt 1 (by decide)) nm
        go_big_wp2_with fail
        refine hQ _ _ _ ?_ (hJ.pre_op (i := 2) (by decide) nm (hI) (fun j v h => h.kept (Below.refl _ _)) (rfl))
        first | rfl | (simp [upd, c1']; done)
      · intro L ff kk ww hkk hJ hcl hLi hwt QQ' hQ
        try dsimp only
        have nm : L 31 = false := by
          cases hx : L 31 with
          | false => rfl
          | true =>
            have h31x := hx
            have h29x : L 29 = true := hcl 31 _ rfl h31x 29 (by decide)
            have h5x : L 5 = true := hcl 29 _ rfl h29x 5 (by decide)
            have h4x : L 4 = true := hcl 5 _ rfl h5x 4 (by decide)
            have h3x : L 3 = true := hcl 4 _ rfl h4x 3 (by decide)
            have h2 : L 3 = false := hLi
            rw [h3x] at h2; cases h2
        have hI := hJ.inv nm
        go_big_wp2_with fail
        refine hQ _ _ _ ?_ (hJ.pre_op (i := 3) (by decide) nm (hI) (fun j v h => h.kept (Below.refl _ _)) (rfl))
        first | rfl | (simp [upd]; done)
      · intro L ff kk ww hkk hJ hcl hLi hwt QQ' hQ
        try dsimp only
        have nm : L 31 = false := by
          cases hx : L 31 with
          | false => rfl
          | true =>
            have h31x := hx
            have h29x : L 29 = true := hcl 31 _ rfl h31x 29 (by decide)
            have h5x : L 5 = true := hcl 29 _ rfl h29x 5 (by decide)
            have h4x : L 4 = true := hcl 5 _ rfl h5x 4 (by decide)
            have h2 : L 4 = false := hLi
            rw [h4x] at h2; cases h2
        have hI := hJ.inv nm
        have c3' : ff 3 = _ := hJ.pre 3 (by decide) (hwt 3 (by decide)) nm
        go_big_wp2_with fail
        refine hQ _ _ _ ?_ (hJ.pre_op (i := 4) (by decide) nm (hI) (fun j v h => h.kept (Below.refl _ _)) (rfl))
        first | rfl | (simp [upd, c3']; done)
      · intro L ff kk ww hkk hJ hcl hLi hwt QQ' hQ
        try dsimp only
        have nm : L 31 = false := by
          cases hx : L 31 with
          | false => rfl
          | true =>
            have h31x := hx
            have h29x : L 29 = true := hcl 31 _ rfl h31x 29 (by decide)
            have h5x : L 5 = true := hcl 29 _ rfl h29x 5 (by decide)
            have h2 : L 5 = false := hLi
            rw [h5x] at h2; cases h2
        have hI := hJ.inv nm
        have y1 := (HWR.out.kept (row := none) (grown_of_below hI) (Or.inr (by simp [Value.ownBlock]))).cellAt 1 (by omega)
        simp only [List.getElem?_cons_zero, List.getElem?_cons_succ] at y1
        have c4' : ff 4 = _ := hJ.pre 4 (by decide) (hwt 4 (by decide)) nm
        go_big_wp2_with fail
        refine hQ _ _ _ ?_ (hJ.pre_op (i := 5) (by decide) nm (hI) (fun j v h => h.kept (Below.refl _ _)) (rfl))
        first | rfl | (simp [upd, c4']; done)
      · intro L ff kk ww hkk hJ hcl hLi hwt QQ' hQ
        try dsimp only
        have nm : L 31 = false := by
          cases hx : L 31 with
          | false => rfl
          | true =>
            have h31x := hx
            have h29x : L 29 = true := hcl 31 _ rfl h31x 29 (by decide)
            have h8x : L 8 = true := hcl 29 _ rfl h29x 8 (by decide)
            have h7x : L 7 = true := hcl 8 _ rfl h8x 7 (by decide)
            have h6x : L 6 = true := hcl 7 _ rfl h7x 6 (by decide)
            have h2 : L 6 = false := hLi
            rw [h6x] at h2; cases h2
        have hI := hJ.inv nm
        go_big_wp2_with fail
        refine hQ _ _ _ ?_ (hJ.pre_op (i := 6) (by decide) nm (hI) (fun j v h => h.kept (Below.refl _ _)) (rfl))
        first | rfl | (simp [upd]; done)
      · intro L ff kk ww hkk hJ hcl hLi hwt QQ' hQ
        try dsimp only
        have nm : L 31 = false := by
          cases hx : L 31 with
          | false => rfl
          | true =>
            have h31x := hx
            have h29x : L 29 = true := hcl 31 _ rfl h31x 29 (by decide)
            have h8x : L 8 = true := hcl 29 _ rfl h29x 8 (by decide)
            have h7x : L 7 = true := hcl 8 _ rfl h8x 7 (by decide)
            have h2 : L 7 = false := hLi
            rw [h7x] at h2; cases h2
        have hI := hJ.inv nm
        have c6' : ff 6 = _ := hJ.pre 6 (by decide) (hwt 6 (by decide)) nm
        go_big_wp2_with fail
        refine hQ _ _ _ ?_ (hJ.pre_op (i := 7) (by decide) nm (hI) (fun j v h => h.kept (Below.refl _ _)) (rfl))
        first | rfl | (simp [upd, c6']; done)
      · intro L ff kk ww hkk hJ hcl hLi hwt QQ' hQ
        try dsimp only
        have nm : L 31 = false := by
          cases hx : L 31 with
          | false => rfl
          | true =>
            have h31x := hx
            have h29x : L 29 = true := hcl 31 _ rfl h31x 29 (by decide)
            have h8x : L 8 = true := hcl 29 _ rfl h29x 8 (by decide)
            have h2 : L 8 = false := hLi
            rw [h8x] at h2; cases h2
        have hI := hJ.inv nm
        have y2 := (HWR.out.kept (row := none) (grown_of_below hI) (Or.inr (by simp [Value.ownBlock]))).cellAt 2 (by omega)
        simp only [List.getElem?_cons_zero, List.getElem?_cons_succ] at y2
        have c7' : ff 7 = _ := hJ.pre 7 (by decide) (hwt 7 (by decide)) nm
        go_big_wp2_with fail
        refine hQ _ _ _ ?_ (hJ.pre_op (i := 8) (by decide) nm (hI) (fun j v h => h.kept (Below.refl _ _)) (rfl))
        first | rfl | (simp [upd, c7']; done)
      · intro L ff kk ww hkk hJ hcl hLi hwt QQ' hQ
        try dsimp only
        have nm : L 31 = false := by
          cases hx : L 31 with
          | false => rfl
          | true =>
            have h31x := hx
            have h29x : L 29 = true := hcl 31 _ rfl h31x 29 (by decide)
            have h12x : L 12 = true := hcl 29 _ rfl h29x 12 (by decide)
            have h11x : L 11 = true := hcl 12 _ rfl h12x 11 (by decide)
            have h10x : L 10 = true := hcl 11 _ rfl h11x 10 (by decide)
            have h9x : L 9 = true := hcl 10 _ rfl h10x 9 (by decide)
            have h2 : L 9 = false := hLi
            rw [h9x] at h2; cases h2
        have hI := hJ.inv nm
        go_big_wp2_with fail
        refine hQ _ _ _ ?_ (hJ.pre_op (i := 9) (by decide) nm (hI) (fun j v h => h.kept (Below.refl _ _)) (rfl))
        first | rfl | (simp [upd]; done)
      · intro L ff kk ww hkk hJ hcl hLi hwt QQ' hQ
        try dsimp only
        have nm : L 31 = false := by
          cases hx : L 31 with
          | false => rfl
          | true =>
            have h31x := hx
            have h29x : L 29 = true := hcl 31 _ rfl h31x 29 (by decide)
            have h12x : L 12 = true := hcl 29 _ rfl h29x 12 (by decide)
            have h11x : L 11 = true := hcl 12 _ rfl h12x 11 (by decide)
            have h10x : L 10 = true := hcl 11 _ rfl h11x 10 (by decide)
            have h2 : L 10 = false := hLi
            rw [h10x] at h2; cases h2
        have hI := hJ.inv nm
        have c9' : ff 9 = _ := hJ.pre 9 (by decide) (hwt 9 (by decide)) nm
        go_big_wp2_with fail
        refine hQ _ _ _ ?_ (hJ.pre_op (i := 10) (by decide) nm (hI) (fun j v h => h.kept (Below.refl _ _)) (rfl))
        first | rfl | (simp [upd, c9']; done)
      · intro L ff kk ww hkk hJ hcl hLi hwt QQ' hQ
        try dsimp only
        have nm : L 31 = false := by
          cases hx : L 31 with
          | false => rfl
          | true =>
            have h31x := hx
            have h29x : L 29 = true := hcl 31 _ rfl h31x 29 (by decide)
            have h12x : L 12 = true := hcl 29 _ rfl h29x 12 (by decide)
            have h11x : L 11 = true := hcl 12 _ rfl h12x 11 (by decide)
            have h2 : L 11 = false := hLi
            rw [h11x] at h2; cases h2
        have hI := hJ.inv nm
        have y3 := (HWR.out.kept (row := none) (grown_of_below hI) (Or.inr (by simp [Value.ownBlock]))).cellAt 3 (by omega)
        simp only [List.getElem?_cons_zero, List.getElem?_cons_succ] at y3
        have c10' : ff 10 = _ := hJ.pre 10 (by decide) (hwt 10 (by decide)) nm
        go_big_wp2_with fail
        refine hQ _ _ _ ?_ (hJ.pre_op (i := 11) (by decide) nm (hI) (fun j v h => h.kept (Below.refl _ _)) (rfl))
        first | rfl | (simp [upd, c10']; done)
      · intro L ff kk ww hkk hJ hcl hLi hwt QQ' hQ
        try dsimp only
        have nm : L 31 = false := by
          cases hx : L 31 with
          | false => rfl
          | true =>
            have h31x := hx
            have h29x : L 29 = true := hcl 31 _ rfl h31x 29 (by decide)
            have h12x : L 12 = true := hcl 29 _ rfl h29x 12 (by decide)
            have h2 : L 12 = false := hLi
            rw [h12x] at h2; cases h2
        have hI := hJ.inv nm
        have c11' : ff 11 = _ := hJ.pre 11 (by decide) (hwt 11 (by decide)) nm
        go_big_wp2_with fail
        refine (numAt x3 ww (HX3.out)).mono ?_
        rintro e wa ⟨n', rfl, hn', -, -, rfl⟩
        have hn2 := hn'.out
        clear hn'
        subst hn2
        go_big_wp2_with fail
        refine hQ _ _ ww ?_ (hJ.pre_op (i := 12) (by decide) nm (hI) (fun j v h => h.kept (Below.refl _ _)) (rfl))
        first | rfl | (simp [upd, c11']; done)
      · intro L ff kk ww hkk hJ hcl hLi hwt QQ' hQ
        try dsimp only
        have nm : L 31 = false := by
          cases hx : L 31 with
          | false => rfl
          | true =>
            have h31x := hx
            have h29x : L 29 = true := hcl 31 _ rfl h31x 29 (by decide)
            have h16x : L 16 = true := hcl 29 _ rfl h29x 16 (by decide)
            have h15x : L 15 = true := hcl 16 _ rfl h16x 15 (by decide)
            have h14x : L 14 = true := hcl 15 _ rfl h15x 14 (by decide)
            have h13x : L 13 = true := hcl 14 _ rfl h14x 13 (by decide)
            have h2 : L 13 = false := hLi
            rw [h13x] at h2; cases h2
        have hI := hJ.inv nm
        go_big_wp2_with fail
        refine hQ _ _ _ ?_ (hJ.pre_op (i := 13) (by decide) nm (hI) (fun j v h => h.kept (Below.refl _ _)) (rfl))
        first | rfl | (simp [upd]; done)
      · intro L ff kk ww hkk hJ hcl hLi hwt QQ' hQ
        try dsimp only
        have nm : L 31 = false := by
          cases hx : L 31 with
          | false => rfl
          | true =>
            have h31x := hx
            have h29x : L 29 = true := hcl 31 _ rfl h31x 29 (by decide)
            have h16x : L 16 = true := hcl 29 _ rfl h29x 16 (by decide)
            have h15x : L 15 = true := hcl 16 _ rfl h16x 15 (by decide)
            have h14x : L 14 = true := hcl 15 _ rfl h15x 14 (by decide)
            have h2 : L 14 = false := hLi
            rw [h14x] at h2; cases h2
        have hI := hJ.inv nm
        have c13' : ff 13 = _ := hJ.pre 13 (by decide) (hwt 13 (by decide)) nm
        go_big_wp2_with fail
        refine hQ _ _ _ ?_ (hJ.pre_op (i := 14) (by decide) nm (hI) (fun j v h => h.kept (Below.refl _ _)) (rfl))
        first | rfl | (simp [upd, c13']; done)
      · intro L ff kk ww hkk hJ hcl hLi hwt QQ' hQ
        try dsimp only
        have nm : L 31 = false := by
          cases hx : L 31 with
          | false => rfl
          | true =>
            have h31x := hx
            have h29x : L 29 = true := hcl 31 _ rfl h31x 29 (by decide)
            have h16x : L 16 = true := hcl 29 _ rfl h29x 16 (by decide)
            have h15x : L 15 = true := hcl 16 _ rfl h16x 15 (by decide)
            have h2 : L 15 = false := hLi
            rw [h15x] at h2; cases h2
        have hI := hJ.inv nm
        have y4 := (HWR.out.kept (row := none) (grown_of_below hI) (Or.inr (by simp [Value.ownBlock]))).cellAt 4 (by omega)
        simp only [List.getElem?_cons_zero, List.getElem?_cons_succ] at y4
        have c14' : ff 14 = _ := hJ.pre 14 (by decide) (hwt 14 (by decide)) nm
        go_big_wp2_with fail
        refine hQ _ _ _ ?_ (hJ.pre_op (i := 15) (by decide) nm (hI) (fun j v h => h.kept (Below.refl _ _)) (rfl))
        first | rfl | (simp [upd, c14']; done)
      · intro L ff kk ww hkk hJ hcl hLi hwt QQ' hQ
        try dsimp only
        have nm : L 31 = false := by
          cases hx : L 31 with
          | false => rfl
          | true =>
            have h31x := hx
            have h29x : L 29 = true := hcl 31 _ rfl h31x 29 (by decide)
            have h16x : L 16 = true := hcl 29 _ rfl h29x 16 (by decide)
            have h2 : L 16 = false := hLi
            rw [h16x] at h2; cases h2
        have hI := hJ.inv nm
        have c15' : ff 15 = _ := hJ.pre 15 (by decide) (hwt 15 (by decide)) nm
        go_big_wp2_with fail
        refine (numAt x4 ww (HX4.out)).mono ?_
        rintro e wa ⟨n', rfl, hn', -, -, rfl⟩
        have hn2 := hn'.out
        clear hn'
        subst hn2
        go_big_wp2_with fail
        refine hQ _ _ ww ?_ (hJ.pre_op (i := 16) (by decide) nm (hI) (fun j v h => h.kept (Below.refl _ _)) (rfl))
        first | rfl | (simp [upd, c15']; done)
      · intro L ff kk ww hkk hJ hcl hLi hwt QQ' hQ
        try dsimp only
        have nm : L 31 = false := by
          cases hx : L 31 with
          | false => rfl
          | true =>
            have h31x := hx
            have h29x : L 29 = true := hcl 31 _ rfl h31x 29 (by decide)
            have h20x : L 20 = true := hcl 29 _ rfl h29x 20 (by decide)
            have h19x : L 19 = true := hcl 20 _ rfl h20x 19 (by decide)
            have h18x : L 18 = true := hcl 19 _ rfl h19x 18 (by decide)
            have h17x : L 17 = true := hcl 18 _ rfl h18x 17 (by decide)
            have h2 : L 17 = false := hLi
            rw [h17x] at h2; cases h2
        have hI := hJ.inv nm
        go_big_wp2_with fail
        refine hQ _ _ _ ?_ (hJ.pre_op (i := 17) (by decide) nm (hI) (fun j v h => h.kept (Below.refl _ _)) (rfl))
        first | rfl | (simp [upd]; done)
      · intro L ff kk ww hkk hJ hcl hLi hwt QQ' hQ
        try dsimp only
        have nm : L 31 = false := by
          cases hx : L 31 with
          | false => rfl
          | true =>
            have h31x := hx
            have h29x : L 29 = true := hcl 31 _ rfl h31x 29 (by decide)
            have h20x : L 20 = true := hcl 29 _ rfl h29x 20 (by decide)
            have h19x : L 19 = true := hcl 20 _ rfl h20x 19 (by decide)
            have h18x : L 18 = true := hcl 19 _ rfl h19x 18 (by decide)
            have h2 : L 18 = false := hLi
            rw [h18x] at h2; cases h2
        have hI := hJ.inv nm
        have c17' : ff 17 = _ := hJ.pre 17 (by decide) (hwt 17 (by decide)) nm
        go_big_wp2_with fail
        refine hQ _ _ _ ?_ (hJ.pre_op (i := 18) (by decide) nm (hI) (fun j v h => h.kept (Below.refl _ _)) (rfl))
        first | rfl | (simp [upd, c17']; done)
      · intro L ff kk ww hkk hJ hcl hLi hwt QQ' hQ
        try dsimp only
        have nm : L 31 = false := by
          cases hx : L 31 with
          | false => rfl
          | true =>
            have h31x := hx
            have h29x : L 29 = true := hcl 31 _ rfl h31x 29 (by decide)
            have h20x : L 20 = true := hcl 29 _ rfl h29x 20 (by decide)
            have h19x : L 19 = true := hcl 20 _ rfl h20x 19 (by decide)
            have h2 : L 19 = false := hLi
            rw [h19x] at h2; cases h2
        have hI := hJ.inv nm
        have y5 := (HWR.out.kept (row := none) (grown_of_below hI) (Or.inr (by simp [Value.ownBlock]))).cellAt 5 (by omega)
        simp only [List.getElem?_cons_zero, List.getElem?_cons_succ] at y5
        have c18' : ff 18 = _ := hJ.pre 18 (by decide) (hwt 18 (by decide)) nm
        go_big_wp2_with fail
        refine hQ _ _ _ ?_ (hJ.pre_op (i := 19) (by decide) nm (hI) (fun j v h => h.kept (Below.refl _ _)) (rfl))
        first | rfl | (simp [upd, c18']; done)
      · intro L ff kk ww hkk hJ hcl hLi hwt QQ' hQ
        try dsimp only
        have nm : L 31 = false := by
          cases hx : L 31 with
          | false => rfl
          | true =>
            have h31x := hx
            have h29x : L 29 = true := hcl 31 _ rfl h31x 29 (by decide)
            have h20x : L 20 = true := hcl 29 _ rfl h29x 20 (by decide)
            have h2 : L 20 = false := hLi
            rw [h20x] at h2; cases h2
        have hI := hJ.inv nm
        have c19' : ff 19 = _ := hJ.pre 19 (by decide) (hwt 19 (by decide)) nm
        go_big_wp2_with fail
        refine (nums6C x5 ww (HX5.out)).mono ?_
        rintro e wa ⟨g, cap, rfl, hpo, -, -, hb2⟩
        go_big_wp2_with fail
        refine hQ _ _ wa ?_ (hJ.pre_op (i := 20) (by decide) nm (hI.trans (hb2.mono hI.size)) (fun j v h => h.kept (hb2)) (⟨g, cap, rfl, ownMonoN hpo hI.size⟩))
        first | rfl | (simp [upd, c19']; done)
      · intro L ff kk ww hkk hJ hcl hLi hwt QQ' hQ
        try dsimp only
        have nm : L 31 = false := by
          cases hx : L 31 with
          | false => rfl
          | true =>
            have h31x := hx
            have h29x : L 29 = true := hcl 31 _ rfl h31x 29 (by decide)
            have h24x : L 24 = true := hcl 29 _ rfl h29x 24 (by decide)
            have h23x : L 23 = true := hcl 24 _ rfl h24x 23 (by decide)
            have h22x : L 22 = true := hcl 23 _ rfl h23x 22 (by decide)
            have h21x : L 21 = true := hcl 22 _ rfl h22x 21 (by decide)
            have h2 : L 21 = false := hLi
            rw [h21x] at h2; cases h2
        have hI := hJ.inv nm
        go_big_wp2_with fail
        refine hQ _ _ _ ?_ (hJ.pre_op (i := 21) (by decide) nm (hI) (fun j v h => h.kept (Below.refl _ _)) (rfl))
        first | rfl | (simp [upd]; done)
      · intro L ff kk ww hkk hJ hcl hLi hwt QQ' hQ
        try dsimp only
        have nm : L 31 = false := by
          cases hx : L 31 with
          | false => rfl
          | true =>
            have h31x := hx
            have h29x : L 29 = true := hcl 31 _ rfl h31x 29 (by decide)
            have h24x : L 24 = true := hcl 29 _ rfl h29x 24 (by decide)
            have h23x : L 23 = true := hcl 24 _ rfl h24x 23 (by decide)
            have h22x : L 22 = true := hcl 23 _ rfl h23x 22 (by decide)
            have h2 : L 22 = false := hLi
            rw [h22x] at h2; cases h2
        have hI := hJ.inv nm
        have c21' : ff 21 = _ := hJ.pre 21 (by decide) (hwt 21 (by decide)) nm
        go_big_wp2_with fail
        refine hQ _ _ _ ?_ (hJ.pre_op (i := 22) (by decide) nm (hI) (fun j v h => h.kept (Below.refl _ _)) (rfl))
        first | rfl | (simp [upd, c21']; done)
      · intro L ff kk ww hkk hJ hcl hLi hwt QQ' hQ
        try dsimp only
        have nm : L 31 = false := by
          cases hx : L 31 with
          | false => rfl
          | true =>
            have h31x := hx
            have h29x : L 29 = true := hcl 31 _ rfl h31x 29 (by decide)
            have h24x : L 24 = true := hcl 29 _ rfl h29x 24 (by decide)
            have h23x : L 23 = true := hcl 24 _ rfl h24x 23 (by decide)
            have h2 : L 23 = false := hLi
            rw [h23x] at h2; cases h2
        have hI := hJ.inv nm
        have y6 := (HWR.out.kept (row := none) (grown_of_below hI) (Or.inr (by simp [Value.ownBlock]))).cellAt 6 (by omega)
        simp only [List.getElem?_cons_zero, List.getElem?_cons_succ] at y6
        have c22' : ff 22 = _ := hJ.pre 22 (by decide) (hwt 22 (by decide)) nm
        go_big_wp2_with fail
        refine hQ _ _ _ ?_ (hJ.pre_op (i := 23) (by decide) nm (hI) (fun j v h => h.kept (Below.refl _ _)) (rfl))
        first | rfl | (simp [upd, c22']; done)
      · intro L ff kk ww hkk hJ hcl hLi hwt QQ' hQ
        try dsimp only
        have nm : L 31 = false := by
          cases hx : L 31 with
          | false => rfl
          | true =>
            have h31x := hx
            have h29x : L 29 = true := hcl 31 _ rfl h31x 29 (by decide)
            have h24x : L 24 = true := hcl 29 _ rfl h29x 24 (by decide)
            have h2 : L 24 = false := hLi
            rw [h24x] at h2; cases h2
        have hI := hJ.inv nm
        have c23' : ff 23 = _ := hJ.pre 23 (by decide) (hwt 23 (by decide)) nm
        go_big_wp2_with fail
        refine (nums6C x6 ww (HX6.out)).mono ?_
        rintro e wa ⟨g, cap, rfl, hpo, -, -, hb2⟩
        go_big_wp2_with fail
        refine hQ _ _ wa ?_ (hJ.pre_op (i := 24) (by decide) nm (hI.trans (hb2.mono hI.size)) (fun j v h => h.kept (hb2)) (⟨g, cap, rfl, ownMonoN hpo hI.size⟩))
        first | rfl | (simp [upd, c23']; done)
      · intro L ff kk ww hkk hJ hcl hLi hwt QQ' hQ
        try dsimp only
        have nm : L 31 = false := by
          cases hx : L 31 with
          | false => rfl
          | true =>
            have h31x := hx
            have h29x : L 29 = true := hcl 31 _ rfl h31x 29 (by decide)
            have h28x : L 28 = true := hcl 29 _ rfl h29x 28 (by decide)
            have h27x : L 27 = true := hcl 28 _ rfl h28x 27 (by decide)
            have h26x : L 26 = true := hcl 27 _ rfl h27x 26 (by decide)
            have h25x : L 25 = true := hcl 26 _ rfl h26x 25 (by decide)
            have h2 : L 25 = false := hLi
            rw [h25x] at h2; cases h2
        have hI := hJ.inv nm
        go_big_wp2_with fail
        refine hQ _ _ _ ?_ (hJ.pre_op (i := 25) (by decide) nm (hI) (fun j v h => h.kept (Below.refl _ _)) (rfl))
        first | rfl | (simp [upd]; done)
      · intro L ff kk ww hkk hJ hcl hLi hwt QQ' hQ
        try dsimp only
        have nm : L 31 = false := by
          cases hx : L 31 with
          | false => rfl
          | true =>
            have h31x := hx
            have h29x : L 29 = true := hcl 31 _ rfl h31x 29 (by decide)
            have h28x : L 28 = true := hcl 29 _ rfl h29x 28 (by decide)
            have h27x : L 27 = true := hcl 28 _ rfl h28x 27 (by decide)
            have h26x : L 26 = true := hcl 27 _ rfl h27x 26 (by decide)
            have h2 : L 26 = false := hLi
            rw [h26x] at h2; cases h2
        have hI := hJ.inv nm
        have c25' : ff 25 = _ := hJ.pre 25 (by decide) (hwt 25 (by decide)) nm
        go_big_wp2_with fail
        refine hQ _ _ _ ?_ (hJ.pre_op (i := 26) (by decide) nm (hI) (fun j v h => h.kept (Below.refl _ _)) (rfl))
        first | rfl | (simp [upd, c25']; done)
      · intro L ff kk ww hkk hJ hcl hLi hwt QQ' hQ
        try dsimp only
        have nm : L 31 = false := by
          cases hx : L 31 with
          | false => rfl
          | true =>
            have h31x := hx
            have h29x : L 29 = true := hcl 31 _ rfl h31x 29 (by decide)
            have h28x : L 28 = true := hcl 29 _ rfl h29x 28 (by decide)
            have h27x : L 27 = true := hcl 28 _ rfl h28x 27 (by decide)
            have h2 : L 27 = false := hLi
            rw [h27x] at h2; cases h2
        have hI := hJ.inv nm
        have y7 := (HWR.out.kept (row := none) (grown_of_below hI) (Or.inr (by simp [Value.ownBlock]))).cellAt 7 (by omega)
        simp only [List.getElem?_cons_zero, List.getElem?_cons_succ] at y7
        have c26' : ff 26 = _ := hJ.pre 26 (by decide) (hwt 26 (by decide)) nm
        go_big_wp2_with fail
        refine hQ _ _ _ ?_ (hJ.pre_op (i := 27) (by decide) nm (hI) (fun j v h => h.kept (Below.refl _ _)) (rfl))
        first | rfl | (simp [upd, c26']; done)
      · intro L ff kk ww hkk hJ hcl hLi hwt QQ' hQ
        try dsimp only
        have nm : L 31 = false := by
          cases hx : L 31 with
          | false => rfl
          | true =>
            have h31x := hx
            have h29x : L 29 = true := hcl 31 _ rfl h31x 29 (by decide)
            have h28x : L 28 = true := hcl 29 _ rfl h29x 28 (by decide)
            have h2 : L 28 = false := hLi
            rw [h28x] at h2; cases h2
        have hI := hJ.inv nm
        have c27' : ff 27 = _ := hJ.pre 27 (by decide) (hwt 27 (by decide)) nm
        go_big_wp2_with fail
        refine (nums6C x7 ww (HX7.out)).mono ?_
        rintro e wa ⟨g, cap, rfl, hpo, -, -, hb2⟩
        go_big_wp2_with fail
        refine hQ _ _ wa ?_ (hJ.pre_op (i := 28) (by decide) nm (hI.trans (hb2.mono hI.size)) (fun j v h => h.kept (hb2)) (⟨g, cap, rfl, ownMonoN hpo hI.size⟩))
        first | rfl | (simp [upd, c27']; done)
      · intro L ff kk ww hkk hJ hcl hLi hwt QQ' hQ
        try dsimp only
        have nm : L 31 = false := by
          cases hx : L 31 with
          | false => rfl
          | true =>
            have h31x := hx
            have h29x : L 29 = true := hcl 31 _ rfl h31x 29 (by decide)
            have h2 : L 29 = false := hLi
            rw [h29x] at h2; cases h2
        have hI := hJ.inv nm
        obtain ⟨gL, cL, k20, h20⟩ := hJ.pre 20 (by decide) (hwt 20 (by decide)) nm
        obtain ⟨gS, cS, k24, h24⟩ := hJ.pre 24 (by decide) (hwt 24 (by decide)) nm
        obtain ⟨gB, cB, k28, h28⟩ := hJ.pre 28 (by decide) (hwt 28 (by decide)) nm
        have H20 := Lib.hid h20
        have H24 := Lib.hid h24
        have H28 := Lib.hid h28
        clear h20 h24 h28
        have c2' : ff 2 = _ := hJ.pre 2 (by decide) (hwt 2 (by decide)) nm
        have c5' : ff 5 = _ := hJ.pre 5 (by decide) (hwt 5 (by decide)) nm
        have c8' : ff 8 = _ := hJ.pre 8 (by decide) (hwt 8 (by decide)) nm
        have c12' : ff 12 = _ := hJ.pre 12 (by decide) (hwt 12 (by decide)) nm
        have c16' : ff 16 = _ := hJ.pre 16 (by decide) (hwt 16 (by decide)) nm
        go_big_wp2_with fail
        refine hQ _ (.agg (rowG x0 x1 x2 (numV x3.data.toList) (numV x4.data.toList) 0 (.slice (some ⟨gL, 0, none⟩) (nums5 x5.data.toList).length cL) (.slice (some ⟨gS, 0, none⟩) (nums5 x6.data.toList).length cS) (.slice (some ⟨gB, 0, none⟩) (nums5 x7.data.toList).length cB))) _ ?_ (hJ.pre_op (i := 29) (by decide) nm (hI) (fun j v h => h.kept (Below.refl _ _)) (⟨gL, cL, gS, cS, gB, cB, rfl, H20.out, H24.out, H28.out⟩))
        first | rfl | (simp [upd, c2', c5', c8', c12', c16', k20, k24, k28]; done)
      · intro L ff kk ww hkk hJ hcl hLi hwt QQ' hQ
        try dsimp only
        have nm : L 31 = false := by
          cases hx : L 31 with
          | false => rfl
          | true =>
            have h31x := hx
            have h30x : L 30 = true := hcl 31 _ rfl h31x 30 (by decide)
            have h2 : L 30 = false := hLi
            rw [h30x] at h2; cases h2
        have hI := hJ.inv nm
        go_big_wp2_with fail
        refine hQ _ _ (ww.alloc (.cells (rowG ⟨#[]⟩ ⟨#[]⟩ ⟨#[]⟩ 0 0 0 (.slice none 0 0) (.slice none 0 0) (.slice none 0 0)) 25)) ?_ (hJ.pre_op (i := 30) (by decide) nm (hI.alloc hI.size _) (fun j v h => h.kept ((Below.refl _ _).alloc (Nat.le_refl _) _)) (⟨ww.heap.size, rfl, heap_alloc_new ww _, hI.size⟩))
        first | rfl | (simp [upd]; done)
      · intro L ff kk ww hkk hJ hcl hLi hwt QQ' hQ
        try dsimp only
        have nm : L 31 = false := hLi
        have hI := hJ.inv nm
        obtain ⟨gL, cL, gS, cS, gB, cB, c29, h1, h2, h3⟩ := hJ.pre 29 (by decide) (hwt 29 (by decide)) nm
        obtain ⟨gx, c30, hx, hgx⟩ := hJ.pre 30 (by decide) (hwt 30 (by decide)) nm
        have HX := Lib.hid hx
        have n1 := ne_of_types h1 hx
        have n2 := ne_of_types h2 hx
        have n3 := ne_of_types h3 hx
        have g1 := grown_setRow ww gx (rowG x0 x1 x2 (numV x3.data.toList) (numV x4.data.toList) 0 (.slice (some ⟨gL, 0, none⟩) (nums5 x5.data.toList).length cL) (.slice (some ⟨gS, 0, none⟩) (nums5 x6.data.toList).length cS) (.slice (some ⟨gB, 0, none⟩) (nums5 x7.data.toList).length cB))
        have hR := setRow_heap _ gx _ (rowG x0 x1 x2 (numV x3.data.toList) (numV x4.data.toList) 0 (.slice (some ⟨gL, 0, none⟩) (nums5 x5.data.toList).length cL) (.slice (some ⟨gS, 0, none⟩) (nums5 x6.data.toList).length cS) (.slice (some ⟨gB, 0, none⟩) (nums5 x7.data.toList).length cB)) _ _ hx
        have HF : Hid (MLm w1.heap.size w1 x0 x1 x2 x3 x4 x5 x6 x7 (.pointer (some ⟨gx, 0, none⟩)) (ww.setRow gx (rowG x0 x1 x2 (numV x3.data.toList) (numV x4.data.toList) 0 (.slice (some ⟨gL, 0, none⟩) (nums5 x5.data.toList).length cL) (.slice (some ⟨gS, 0, none⟩) (nums5 x6.data.toList).length cS) (.slice (some ⟨gB, 0, none⟩) (nums5 x7.data.toList).length cB)))) := ⟨gx, gL, cL, gS, cS, gB, cB, rfl, hR, ⟨h1.kept g1 (Or.inr (by simp [Value.ownBlock]; omega)), h2.kept g1 (Or.inr (by simp [Value.ownBlock]; omega)), h3.kept g1 (Or.inr (by simp [Value.ownBlock]; omega))⟩, hgx, ⟨n1, n2, n3⟩, below_row hI hI.size hgx g1⟩
        clear h1 h2 h3 hx g1 hR n1 n2 n3
        rw [c29, c30]
        go_big_wp2_with (first
          | (refine wpList_store_row rfl 25 _ _ rfl gx (rowG x0 x1 x2 (numV x3.data.toList) (numV x4.data.toList) 0 (.slice (some ⟨gL, 0, none⟩) (nums5 x5.data.toList).length cL) (.slice (some ⟨gS, 0, none⟩) (nums5 x6.data.toList).length cS) (.slice (some ⟨gB, 0, none⟩) (nums5 x7.data.toList).length cB)) rfl rfl 25 (rowG ⟨#[]⟩ ⟨#[]⟩ ⟨#[]⟩ 0 0 0 (.slice none 0 0) (.slice none 0 0) (.slice none 0 0)) HX.out legSize rfl (rowG_one _ _ _ _ _ _ _ _ _ rfl rfl rfl) ?_)
          | fail)
        refine hQ _ undef (ww.setRow gx (rowG x0 x1 x2 (numV x3.data.toList) (numV x4.data.toList) 0 (.slice (some ⟨gL, 0, none⟩) (nums5 x5.data.toList).length cL) (.slice (some ⟨gS, 0, none⟩) (nums5 x6.data.toList).length cS) (.slice (some ⟨gB, 0, none⟩) (nums5 x7.data.toList).length cB))) ?_ (TB.end_op undef (by rw [c30]; exact HF.out))
        first | rfl | (simp [upd, c29, c30]; done)
    case hend =>
    intro L ff kk w9 hkb hL hJ
    try dsimp only
    have hfin := hJ.done (hL 31 (by decide))
    clear hJ hL


    obtain ⟨gx, gL, cL, gS, cS, gB, cB, ez, hx, ⟨h5, h6, h7⟩, hgx, ⟨n1, n2, n3⟩, hb9⟩ := hfin
    rw [ez]
    have hx01 : 1 ≤ (nums5 x5.data.toList).length := by
      have hne := splitB_ne 44 x5.data.toList
      unfold nums5
      cases hsp : splitB 44 x5.data.toList with
      | nil => exact absurd hsp hne
      | cons y r => simp
    have hfive : ∀ l : List UInt8, (nums5 l).length ≤ 5 := fun l => by unfold nums5; simp; omega
    have HFT : Hid (Fits (leg8D (pieces5 x0 x1 x2 x3 x4 x5 x6 x7))) := ⟨HX0'.out, HX1'.out, HX2'.out, Nat.le_trans (hfive _) (by omega), Nat.le_trans (hfive _) (by omega), Nat.le_trans (hfive _) (by omega), Nat.zero_le _⟩
    have i1 : (0 : Int) < ((nums5 x5.data.toList).length : Int) := by omega
    obtain ⟨cv, hcv⟩ : ∃ cv, cap8 (nums5 x5.data.toList) = cv := ⟨_, rfl⟩
    have HV := Lib.hid hcv
    obtain ⟨-, -, -, -, -, d5, d6, -⟩ := rowG_cells hx
    have dz := frozen_of_row _ _ 5 _ _ hx
    have dg : w9.cell? ⟨gL, 0, none⟩ = some (.int .i64 cv) := by rw [← hcv]; exact (h5.cellAt 0 (by omega)).trans (cellsI_get _ 0 (by omega))
    have gs := grown_set w9 ⟨gx, 5, none⟩ (.int .i64 cv)
    have hxn : (w9.setCell ⟨gx, 5, none⟩ (.int .i64 cv)).heap[gx]? = some (.cells (rowG x0 x1 x2 (numV x3.data.toList) (numV x4.data.toList) cv (.slice (some ⟨gL, 0, none⟩) (nums5 x5.data.toList).length cL) (.slice (some ⟨gS, 0, none⟩) (nums5 x6.data.toList).length cS) (.slice (some ⟨gB, 0, none⟩) (nums5 x7.data.toList).length cB)) 25 (0, 0)) := heap_setCell_same w9 gx 5 _ _ (.int .i64 cv) hx
    have HBn := Lib.hid (below_row (HB.out.trans (hb9.mono hzw1)) (Nat.le_trans hzw1 hb9.size) (show w.heap.size ≤ gx by omega) gs)
    have HXn := Lib.hid hxn
    have hwl : w.heap.size < w1.heap.size := lt_heap HX1.out
    have HXr := Lib.hid ((gs.block w.heap.size (Nat.lt_of_lt_of_le hwl hb9.size) (by simp; omega)).trans ((hb9.block _ hwl).trans HX1.out))
    have HIN : Hid (LegIn (w9.setCell ⟨gx, 5, none⟩ (.int .i64 cv)) (leg8D (pieces5 x0 x1 x2 x3 x4 x5 x6 x7)) (plP ⟨gL, cL, gS, cS, gB, cB⟩)) := ⟨numsOwn (h5.kept gs (Or.inr (by simp [Value.ownBlock]; omega))), numsOwn (h6.kept gs (Or.inr (by simp [Value.ownBlock]; omega))), numsOwn (h7.kept gs (Or.inr (by simp [Value.ownBlock]; omega))), Or.inl rfl⟩
    have HO5 := Lib.hid (h5.kept gs (Or.inr (by simp [Value.ownBlock]; omega)))
    have HO6 := Lib.hid (h6.kept gs (Or.inr (by simp [Value.ownBlock]; omega)))
    have HO7 := Lib.hid (h7.kept gs (Or.inr (by simp [Value.ownBlock]; omega)))
    have hgL : w1.heap.size ≤ gL := (h5.lt gL rfl).1
    have hgS : w1.heap.size ≤ gS := (h6.lt gS rfl).1
    have hgB : w1.heap.size ≤ gB := (h7.lt gB rfl).1
    have KW := Lib.hid (writeS (leg8D (pieces5 x0 x1 x2 x3 x4 x5 x6 x7)) (plP ⟨gL, cL, gS, cS, gB, cB⟩) _ HIN.out HFT.out)
    have eV : Hid (LegV (leg8D (pieces5 x0 x1 x2 x3 x4 x5 x6 x7)) (plP ⟨gL, cL, gS, cS, gB, cB⟩) = .agg (rowG x0 x1 x2 (numV x3.data.toList) (numV x4.data.toList) cv (.slice (some ⟨gL, 0, none⟩) (nums5 x5.data.toList).length cL) (.slice (some ⟨gS, 0, none⟩) (nums5 x6.data.toList).length cS) (.slice (some ⟨gB, 0, none⟩) (nums5 x7.data.toList).length cB))) := by show _ = _; rw [← hcv]; rfl
    rw [eV.out] at KW
    obtain ⟨z0, z1, z2, z3, z4, z5, z6, z7, z8, z9⟩ := rowG_cells hxn
    clear ez hb9 hx h5 h6 h7 gs hxn hcv HX1 HWR HB hfive
    go_wp2_with fail
    refine KW.out.mono ?_
    generalize w9.setCell ⟨gx, 5, none⟩ (.int .i64 cv) = w10 at *
    rintro e w5 ⟨o, rfl, ho, d5'⟩
    obtain rfl := legO_of ho.out
    have h9 : w.heap.size ≤ w10.heap.size := HBn.out.size
    have HB5 := Lib.hid (HBn.out.trans (d5'.mono h9))
    have HX5 := Lib.hid ((d5'.block _ (lt_heap HXn.out)).trans HXn.out)
    have HXr5 := Lib.hid ((d5'.block _ (lt_heap HXr.out)).trans HXr.out)
    have HO55 := Lib.hid (own_below' HO5.out d5')
    have HO65 := Lib.hid (own_below' HO6.out d5')
    have HO75 := Lib.hid (own_below' HO7.out d5')
    have hw5 : w.heap.size < w5.heap.size := lt_heap HXr5.out
    clear ho d5' KW HXn HXr HBn z0 z1 z2 z3 z4 z5 z6 z7 z8 z9 d5 d6 dz dg
    by_cases hq : (legO (leg8D (pieces5 x0 x1 x2 x3 x4 x5 x6 x7))).toList = s.toList
    · have HR := Lib.hid (l5_yes HWS.out hq)
      have z : (!((legO (leg8D (pieces5 x0 x1 x2 x3 x4 x5 x6 x7))).toList == s.toList)) = false := by simp [hq]
      obtain ⟨z0, z1, z2, z3, z4, z5, z6, z7, z8, z9⟩ := rowG_cells HX5.out
      have g1 := grown_setRow w5 w.heap.size (rowG x0 x1 x2 (numV x3.data.toList) (numV x4.data.toList) cv (.slice (some ⟨gL, 0, none⟩) (nums5 x5.data.toList).length cL) (.slice (some ⟨gS, 0, none⟩) (nums5 x6.data.toList).length cS) (.slice (some ⟨gB, 0, none⟩) (nums5 x7.data.toList).length cB))
      have HBf := Lib.hid (below_row HB5.out HB5.out.size (Nat.le_refl _) g1)
      have F0 := Lib.hid (rowG_cells (setRow_heap _ w.heap.size _ (rowG x0 x1 x2 (numV x3.data.toList) (numV x4.data.toList) cv (.slice (some ⟨gL, 0, none⟩) (nums5 x5.data.toList).length cL) (.slice (some ⟨gS, 0, none⟩) (nums5 x6.data.toList).length cS) (.slice (some ⟨gB, 0, none⟩) (nums5 x7.data.toList).length cB)) _ _ HXr5.out))
      have HO9 : Hid (LegIn (w5.setRow w.heap.size (rowG x0 x1 x2 (numV x3.data.toList) (numV x4.data.toList) cv (.slice (some ⟨gL, 0, none⟩) (nums5 x5.data.toList).length cL) (.slice (some ⟨gS, 0, none⟩) (nums5 x6.data.toList).length cS) (.slice (some ⟨gB, 0, none⟩) (nums5 x7.data.toList).length cB))) (leg8D (pieces5 x0 x1 x2 x3 x4 x5 x6 x7)) (plP ⟨gL, cL, gS, cS, gB, cB⟩)) :=
        ⟨numsOwn (HO55.out.kept g1 (Or.inr (by simp [Value.ownBlock]; omega))), numsOwn (HO65.out.kept g1 (Or.inr (by simp [Value.ownBlock]; omega))), numsOwn (HO75.out.kept g1 (Or.inr (by simp [Value.ownBlock]; omega))), Or.inl rfl⟩
      clear hq g1
      go_wp2_with (first
        | (refine wpList_store_row rfl 25 _ _ rfl w.heap.size (rowG x0 x1 x2 (numV x3.data.toList) (numV x4.data.toList) cv (.slice (some ⟨gL, 0, none⟩) (nums5 x5.data.toList).length cL) (.slice (some ⟨gS, 0, none⟩) (nums5 x6.data.toList).length cS) (.slice (some ⟨gB, 0, none⟩) (nums5 x7.data.toList).length cB)) rfl rfl 25 (rowG ⟨#[]⟩ ⟨#[]⟩ ⟨#[]⟩ 0 0 0 (.slice none 0 0) (.slice none 0 0) (.slice none 0 0)) HXr5.out legSize rfl (rowG_one _ _ _ _ _ _ _ _ _ rfl rfl rfl) ?_)
        | fail)
      obtain ⟨f0, f1, f2, f3, f4, f5, f6, f7, f8, f9⟩ := F0.out

      generalize w5.setRow w.heap.size (rowG x0 x1 x2 (numV x3.data.toList) (numV x4.data.toList) cv (.slice (some ⟨gL, 0, none⟩) (nums5 x5.data.toList).length cL) (.slice (some ⟨gS, 0, none⟩) (nums5 x6.data.toList).length cS) (.slice (some ⟨gB, 0, none⟩) (nums5 x7.data.toList).length cB)) = w8 at *
      (try simp only [Exit.inBlock, Exit.then])
      refine bodyPost_ret (v := .tuple #[.agg (rowG x0 x1 x2 (numV x3.data.toList) (numV x4.data.toList) cv (.slice (some ⟨gL, 0, none⟩) (nums5 x5.data.toList).length cL) (.slice (some ⟨gS, 0, none⟩) (nums5 x6.data.toList).length cS) (.slice (some ⟨gB, 0, none⟩) (nums5 x7.data.toList).length cB)), .bool true]) ?_ rfl ⟨HBf.out, Or.inr ⟨(pieces5 x0 x1 x2 x3 x4 x5 x6 x7), ⟨gL, cL, gS, cS, gB, cB⟩, HR, by rw [← HV.out]; rfl, HO9.out⟩⟩
      simp [results, Tryz.results5, go_sem, f0, f1, f2, f3, f4, f5, f6, f7, f8, f9]
    · have HN := Lib.hid (l5_no HWS.out hq)
      have z : (!((legO (leg8D (pieces5 x0 x1 x2 x3 x4 x5 x6 x7))).toList == s.toList)) = true := by simp [hq]
      clear hq
      have HBf := Lib.hid (below_row HB5.out HB5.out.size (Nat.le_refl _) (grown_setRow w5 w.heap.size (rowG ⟨#[]⟩ ⟨#[]⟩ ⟨#[]⟩ 0 0 0 (.slice none 0 0) (.slice none 0 0) (.slice none 0 0))))
      have F0 := Lib.hid (rowG_cells (setRow_heap _ w.heap.size _ (rowG ⟨#[]⟩ ⟨#[]⟩ ⟨#[]⟩ 0 0 0 (.slice none 0 0) (.slice none 0 0) (.slice none 0 0)) _ _ HXr5.out))
      go_wp2_with (first
        | (refine wpList_store_row rfl 25 _ _ rfl w.heap.size (rowG ⟨#[]⟩ ⟨#[]⟩ ⟨#[]⟩ 0 0 0 (.slice none 0 0) (.slice none 0 0) (.slice none 0 0)) rfl rfl 25 (rowG ⟨#[]⟩ ⟨#[]⟩ ⟨#[]⟩ 0 0 0 (.slice none 0 0) (.slice none 0 0) (.slice none 0 0)) HXr5.out legSize rfl (rowG_one _ _ _ _ _ _ _ _ _ rfl rfl rfl) ?_)
        | fail)
      obtain ⟨f0, f1, f2, f3, f4, f5, f6, f7, f8, f9⟩ := F0.out
      generalize w5.setRow w.heap.size (rowG ⟨#[]⟩ ⟨#[]⟩ ⟨#[]⟩ 0 0 0 (.slice none 0 0) (.slice none 0 0) (.slice none 0 0)) = w8 at *
      (try simp only [Exit.inBlock, Exit.then])
      refine bodyPost_ret (v := .tuple #[.agg (rowG ⟨#[]⟩ ⟨#[]⟩ ⟨#[]⟩ 0 0 0 (.slice none 0 0) (.slice none 0 0) (.slice none 0 0)), .bool false]) ?_ rfl ⟨HBf.out, Or.inl ⟨HN, rfl⟩⟩
      simp [results, Tryz.results5, go_sem, f0, f1, f2, f3, f4, f5, f6, f7, f8, f9]

  · have z4 : ((ws.length : Int) == 8) = false := by simp; omega
    have z4n : (ws.length == 8) = false := by simp; omega
    have HN := Lib.hid (lm_eight HWS.out h3)
    clear h3
    have HBf := Lib.hid (below_row HB.out HB.out.size (Nat.le_refl _) (grown_setRow w1 w.heap.size (rowG ⟨#[]⟩ ⟨#[]⟩ ⟨#[]⟩ 0 0 0 (.slice none 0 0) (.slice none 0 0) (.slice none 0 0))))
    have F0 := Lib.hid (rowG_cells (setRow_heap _ w.heap.size _ (rowG ⟨#[]⟩ ⟨#[]⟩ ⟨#[]⟩ 0 0 0 (.slice none 0 0) (.slice none 0 0) (.slice none 0 0)) _ _ HX1.out))
    go_wp2_with (first
      | (refine wpList_store_row rfl 25 _ _ rfl w.heap.size (rowG ⟨#[]⟩ ⟨#[]⟩ ⟨#[]⟩ 0 0 0 (.slice none 0 0) (.slice none 0 0) (.slice none 0 0)) rfl rfl 25 (rowG ⟨#[]⟩ ⟨#[]⟩ ⟨#[]⟩ 0 0 0 (.slice none 0 0) (.slice none 0 0) (.slice none 0 0)) HX1.out legSize rfl (rowG_one _ _ _ _ _ _ _ _ _ rfl rfl rfl) ?_)
      | fail)
    obtain ⟨f0, f1, f2, f3, f4, f5, f6, f7, f8, f9⟩ := F0.out
    generalize w1.setRow w.heap.size (rowG ⟨#[]⟩ ⟨#[]⟩ ⟨#[]⟩ 0 0 0 (.slice none 0 0) (.slice none 0 0) (.slice none 0 0)) = w8 at *
    (try simp only [Exit.inBlock, Exit.then])
    refine bodyPost_ret (v := .tuple #[.agg (rowG ⟨#[]⟩ ⟨#[]⟩ ⟨#[]⟩ 0 0 0 (.slice none 0 0) (.slice none 0 0) (.slice none 0 0)), .bool false]) ?_ rfl ⟨HBf.out, Or.inl ⟨HN, rfl⟩⟩
    simp [results, Tryz.results5, go_sem, f0, f1, f2, f3, f4, f5, f6, f7, f8, f9]

end Go.Proofs.YtdaccpffdnbkiaaGreatDoor
