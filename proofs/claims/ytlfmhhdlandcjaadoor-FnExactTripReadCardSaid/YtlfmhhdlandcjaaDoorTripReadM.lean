/-
  The model's TripRead.
-/
import Derived.Test.YtlfmhhdlandcjaaDoorOrNoneT
import Derived.Test.YtlfmhhdlandcjaaDoorTripWriteSR
import Derived.Deep.CutRange
namespace Go.Proofs.YtlfmhhdlandcjaaDoor
open Go.RowKit
set_option linter.unusedVariables false
set_option linter.unusedSimpArgs false

theorem bytes_map {a b : List ByteArray} (h : a.map (·.data.toList) = b.map (·.data.toList)) : a = b := by
  induction a generalizing b with
  | nil => cases b with
    | nil => rfl
    | cons y b => simp at h
  | cons x a ih => cases b with
    | nil => simp at h
    | cons y b =>
      simp only [List.map_cons, List.cons.injEq] at h
      rw [ih h.2, ByteArray.ext (Array.ext' h.1)]
theorem cellsS_map : ∀ (l : List ByteArray), cellsS l = l.map Value.string
  | [] => rfl
  | x :: l => by
    have e : cellsS (x :: l) = Value.string x :: cellsS l := rfl
    rw [e, cellsS_map l]; rfl
theorem tm_three {s : ByteArray} {ws : List ByteArray} (hw : ws.map (·.data.toList) = splitB 47 s.data.toList) (h : ws.length ≠ 3) : ¬ IsTripT s := by
  rintro ⟨ss, f, n, h1, h2⟩
  rw [← h2, split_trip h1] at hw
  have := congrArg List.length hw
  simp at this
  exact h this
theorem tm_ok {s x0 x1 x2 : ByteArray} {ps : List ByteArray} (hw : [x0, x1, x2].map (·.data.toList) = splitB 47 s.data.toList) (hp : ps.map (·.data.toList) = splitB 45 x0.data.toList) (h : IsTripT s) : FormOk ps x1 (numV x2.data.toList) ∧ tripT ps x1 (numV x2.data.toList) = s.data.toList := by
  obtain ⟨ss, f, n, h1, h2⟩ := h
  have hn := form_names h1
  have hh := h1
  obtain ⟨a1, a2, a3, a4, a5, a6⟩ := h1
  rw [← h2, split_trip hh] at hw
  simp only [List.map_cons, List.map_nil, List.cons.injEq, and_true] at hw
  obtain ⟨b0, b1, b2⟩ := hw
  rw [b0, split_join a1 hn] at hp
  have e1 := bytes_map hp
  have e2 : x1 = f := ByteArray.ext (Array.ext' b1)
  subst e1 e2
  rw [b2, numV_small a5 a6]
  exact ⟨hh, h2⟩
theorem tm_yes {s x0 x1 x2 : ByteArray} {ps : List ByteArray} (hw : [x0, x1, x2].map (·.data.toList) = splitB 47 s.data.toList) (he : (tripO ps x1 (numV x2.data.toList)).toList = s.toList) : FormOk ps x1 (numV x2.data.toList) ∧ tripT ps x1 (numV x2.data.toList) = s.data.toList := by
  rw [Lib.toList_data, Lib.toList_data] at he
  unfold tripO at he
  split at he
  · rename_i q; exact ⟨q, by simpa using he⟩
  · have hs : s.data.toList = [] := by rw [← he]
    rw [hs] at hw
    simp [splitB] at hw
theorem tm_no {s x0 x1 x2 : ByteArray} {ps : List ByteArray} (hw : [x0, x1, x2].map (·.data.toList) = splitB 47 s.data.toList) (hp : ps.map (·.data.toList) = splitB 45 x0.data.toList) (hne : (tripO ps x1 (numV x2.data.toList)).toList ≠ s.toList) : ¬ IsTripT s := by
  intro h
  obtain ⟨a, b⟩ := tm_ok hw hp h
  apply hne
  unfold tripO
  rw [if_pos a, Lib.toList_data, Lib.toList_data, b]
/-- A list of pieces in memory of its own. -/
def Cuts (B : Nat) (b : UInt8) (x : ByteArray) (W : World) (ps : List ByteArray) (g cap : Nat) : Prop :=
  Hid (ps.map (·.data.toList) = splitB b x.data.toList) ∧ ps.length ≤ x.size + 1 ∧ Hid (∀ y ∈ ps, y.size ≤ x.size) ∧ W.ownsRow B 9 1 (.slice (some ⟨g, 0, none⟩) ps.length cap) ps.length (cellsS ps)
theorem Cuts.kept {B : Nat} {b : UInt8} {x : ByteArray} {W W' : World} {ps : List ByteArray} {g cap : Nat} (h : Cuts B b x W ps g cap) (hb : Below W.heap.size W W') : Cuts B b x W' ps g cap :=
  ⟨h.1, h.2.1, h.2.2.1, h.2.2.2.kept (row := none) (grown_of_below hb) (Or.inr (by simp [Value.ownBlock]))⟩
/-- A region whose last operation stores into the box that the one ahead of it has made. -/
structure TB (m : Nat) (I : Nat → World → Prop) (S : Nat → World → Value → Prop) (M : Value → World → Prop) (k : Nat) (L : Nat → Bool) (f : Nat → Value) (W : World) : Prop where
  inv : L (m + 1) = false → I k W
  pre : ∀ i, i < m + 1 → L i = true → L (m + 1) = false → S i W (f i)
  done : L (m + 1) = true → M (f m) W
section
variable {m k : Nat} {I : Nat → World → Prop} {S : Nat → World → Value → Prop} {M : Value → World → Prop} {L : Nat → Bool} {f : Nat → Value} {W W' : World}
theorem TB.start (h : I 0 W) : TB m I S M 0 (fun _ => false) f W := ⟨fun _ => h, fun _ _ a => (by cases a), fun a => (by cases a)⟩
theorem TB.pre_op (h : TB m I S M k L f W) {i : Nat} {v : Value} (hi : i < m + 1) (hm : L (m + 1) = false) (hI : I (k + 1) W') (hS : ∀ j v, S j W v → S j W' v) (hv : S i W' v) : TB m I S M (k + 1) (upd L i true) (upd f i v) W' := by
  refine ⟨fun _ => hI, fun j hj hL _ => ?_, ?_⟩
  · by_cases e : j = i
    · subst e; rw [upd_self]; exact hv
    · rw [upd_ne _ _ e] at hL ⊢; exact hS _ _ (h.pre j hj hL hm)
  · rw [upd_ne _ _ (by omega), hm]; exact fun a => by cases a
theorem TB.end_op (v : Value) (hM : M (f m) W') : TB m I S M (k + 1) (upd L (m + 1) true) (upd f (m + 1) v) W' :=
  ⟨fun a => (by rw [upd_self] at a; cases a), fun _ _ _ a => (by rw [upd_self] at a; cases a), fun _ => by rw [upd_ne _ _ (by omega)]; exact hM⟩
end
def STm (gw cw B : Nat) (x0 x1 x2 : ByteArray) (i : Nat) (W : World) (v : Value) : Prop := match i with
  | 0 => v = .slice (some ⟨gw, 0, none⟩) 3 cw
  | 1 => v = .pointer (some ⟨gw, 0, none⟩)
  | 2 => v = .string x0
  | 3 => ∃ (ps : List ByteArray) (g cap : Nat), v = .slice (some ⟨g, 0, none⟩) ps.length cap ∧ Cuts B 45 x0 W ps g cap
  | 4 => v = .slice (some ⟨gw, 0, none⟩) 3 cw
  | 5 => v = .pointer (some ⟨gw, 1, none⟩)
  | 6 => v = .string x1
  | 7 => v = .slice (some ⟨gw, 0, none⟩) 3 cw
  | 8 => v = .pointer (some ⟨gw, 2, none⟩)
  | 9 => v = .string x2
  | 10 => v = .int .i64 (numV x2.data.toList)
  | 11 => ∃ (ps : List ByteArray) (g cap : Nat), v = .agg #[.slice (some ⟨g, 0, none⟩) ps.length cap, .string x1, .int .i64 (numV x2.data.toList)] ∧ Cuts B 45 x0 W ps g cap
  | 12 => ∃ gx : Nat, v = .pointer (some ⟨gx, 0, none⟩) ∧ W.heap[gx]? = some (.cells #[.slice none 0 0, .string ⟨#[]⟩, .int .i64 0] 33 (0, 0)) ∧ B ≤ gx
  | _ => True
theorem STm.kept {gw cw B : Nat} {x0 x1 x2 : ByteArray} {i : Nat} {W W' : World} {v : Value} (h : STm gw cw B x0 x1 x2 i W v) (hb : Below W.heap.size W W') : STm gw cw B x0 x1 x2 i W' v := by
  match i, h with
  | 0, h | 1, h | 2, h | 4, h | 5, h | 6, h | 7, h | 8, h | 9, h | 10, h => exact h
  | 3, ⟨ps, g, cap, h1, h2⟩ => exact ⟨ps, g, cap, h1, h2.kept hb⟩
  | 11, ⟨ps, g, cap, h1, h2⟩ => exact ⟨ps, g, cap, h1, h2.kept hb⟩
  | 12, ⟨gx, h1, h2, h3⟩ => exact ⟨gx, h1, (hb.block gx (lt_heap h2)).trans h2, h3⟩
  | n + 13, _ => exact True.intro
def MTm (B : Nat) (w2 : World) (x0 x1 x2 : ByteArray) (v : Value) (W : World) : Prop := ∃ (gx : Nat) (ps : List ByteArray) (g cap : Nat), v = .pointer (some ⟨gx, 0, none⟩) ∧ W.heap[gx]? = some (.cells #[.slice (some ⟨g, 0, none⟩) ps.length cap, .string x1, .int .i64 (numV x2.data.toList)] 33 (0, 0)) ∧ Cuts B 45 x0 W ps g cap ∧ B ≤ gx ∧ gx ≠ g ∧ Below w2.heap.size w2 W
set_option maxRecDepth 100000 in
set_option maxHeartbeats 16000000 in
theorem readMT (s : ByteArray) (w : World) (hs : s.size ≤ 1048576) :
    Calls Tryd.prog 12 #[.string s] w (ReadPostT s w) := by
  go_enter Tryd.func12, Tryd.ntmps12
  go_wp2_with fail
  refine (cut3C 47 47 rfl s _ (by omega)).mono ?_
  rintro e w1 ⟨ws, gw, cw, hws, hl1, hl2, hwsz, rfl, hown, hb⟩
  have HA : Hid (Below w.heap.size w (w.alloc (.cells #[.slice none 0 0, .string ⟨#[]⟩, .int .i64 0] 33))) := (Below.refl _ _).alloc (Nat.le_refl _) _
  have hX0 : (w.alloc (.cells #[.slice none 0 0, .string ⟨#[]⟩, .int .i64 0] 33)).heap[w.heap.size]? = some (.cells #[.slice none 0 0, .string ⟨#[]⟩, .int .i64 0] 33 (0, 0)) := heap_alloc_new w _
  have hX1 := (hb.block _ (lt_heap hX0)).trans hX0
  have hzA : w.heap.size ≤ (w.alloc (.cells #[.slice none 0 0, .string ⟨#[]⟩, .int .i64 0] 33)).heap.size := HA.out.size
  have HB := Lib.hid (HA.out.trans (hb.mono hzA))
  have HX1 := Lib.hid hX1
  have hgw := (hown.lt gw rfl)
  have HW0 := Lib.hid (own_mono hown hzA)
  have HWS : Hid (ws.map (·.data.toList) = splitB 47 s.data.toList) := hws
  have HWZ : Hid (∀ x ∈ ws, x.size ≤ s.size) := hwsz
  have hzw1 : w.heap.size ≤ w1.heap.size := HB.out.size
  clear hws hwsz hown hb hX0 hX1
  generalize (w.alloc (.cells #[.slice none 0 0, .string ⟨#[]⟩, .int .i64 0] 33)) = wA at *
  by_cases h3 : ws.length = 3
  · obtain ⟨x0, x1, x2, rfl⟩ : ∃ x0 x1 x2, ws = [x0, x1, x2] := by
      match ws, h3 with
      | [x0, x1, x2], _ => exact ⟨x0, x1, x2, rfl⟩
    have HX0 : Hid (x0.size ≤ 1048575) := by
      have := splitB_sum 47 s.data.toList
      rw [← HWS.out] at this
      simp at this
      show _ ≤ _; omega
    have HX1s : Hid (x1.size ≤ 1048576) := by have := HWZ.out x1 (by simp); show _ ≤ _; omega
    have HX2 : Hid (x2.size ≤ maxLen) := by have := HWZ.out x2 (by simp); show _ ≤ _; unfold maxLen; omega
    have HWR : Hid (w1.ownsRow w.heap.size 9 1 (.slice (some ⟨gw, 0, none⟩) 3 cw) 3 [.string x0, .string x1, .string x2]) := HW0.out
    clear h3 HW0 hl1 hl2
    go_upto_region 4 with fail
    refine wp_region_invK (by kernel_rfl) (fun kk L f W => TB 12 (fun _ W => Below w1.heap.size w1 W) (STm gw cw w1.heap.size x0 x1 x2) (MTm w1.heap.size w1 x0 x1 x2) kk L f W) (by kernel_rfl) (TB.start ((Below.refl _ _).drew)) ?_
    apply Exists.intro
    apply And.intro
    · intro f
      simp only [over, List.set]
      exact rfl
    refine ⟨?hops, ?hend⟩
    case hops =>
      refine EachOp.cons ?_ (EachOp.cons ?_ (EachOp.cons ?_ (EachOp.cons ?_ (EachOp.cons ?_ (EachOp.cons ?_ (EachOp.cons ?_ (EachOp.cons ?_ (EachOp.cons ?_ (EachOp.cons ?_ (EachOp.cons ?_ (EachOp.cons ?_ (EachOp.cons ?_ (EachOp.cons ?_ (EachOp.nil))))))))))))))
      · intro L ff kk ww hkk hJ hcl hLi hwt QQ' hQ
        try dsimp only
        have nm : L 13 = false := by
          cases hx : L 13 with
          | false => rfl
          | true =>
            have h13x := hx
            have h11x : L 11 = true := hcl 13 _ rfl h13x 11 (by decide)
            have h3x : L 3 = true := hcl 11 _ rfl h11x 3 (by decide)
            have h2x : L 2 = true := hcl 3 _ rfl h3x 2 (by decide)
            have h1x : L 1 = true := hcl 2 _ rfl h2x 1 (by decide)
            have h0x : L 0 = true := hcl 1 _ rfl h1x 0 (by decide)
            have h2 : L 0 = false := hLi
            rw [h0x] at h2; cases h2
        have hI := hJ.inv nm
        go_big_wp2_with fail
        refine hQ _ _ _ ?_ (hJ.pre_op (i := 0) (by decide) nm (hI) (fun j v h => h.kept (Below.refl _ _)) (rfl))
        first | rfl | (simp [upd]; done)
      · intro L ff kk ww hkk hJ hcl hLi hwt QQ' hQ
        try dsimp only
        have nm : L 13 = false := by
          cases hx : L 13 with
          | false => rfl
          | true =>
            have h13x := hx
            have h11x : L 11 = true := hcl 13 _ rfl h13x 11 (by decide)
            have h3x : L 3 = true := hcl 11 _ rfl h11x 3 (by decide)
            have h2x : L 2 = true := hcl 3 _ rfl h3x 2 (by decide)
            have h1x : L 1 = true := hcl 2 _ rfl h2x 1 (by decide)
            have h2 : L 1 = false := hLi
            rw [h1x] at h2; cases h2
        have hI := hJ.inv nm
        have c0' : ff 0 = _ := hJ.pre 0 (by decide) (hwt 0 (by decide)) nm
        go_big_wp2_with fail
        refine hQ _ _ _ ?_ (hJ.pre_op (i := 1) (by decide) nm (hI) (fun j v h => h.kept (Below.refl _ _)) (rfl))
        first | rfl | (simp [upd, c0']; done)
      · intro L ff kk ww hkk hJ hcl hLi hwt QQ' hQ
        try dsimp only
        have nm : L 13 = false := by
          cases hx : L 13 with
          | false => rfl
          | true =>
            have h13x := hx
            have h11x : L 11 = true := hcl 13 _ rfl h13x 11 (by decide)
            have h3x : L 3 = true := hcl 11 _ rfl h11x 3 (by decide)
            have h2x : L 2 = true := hcl 3 _ rfl h3x 2 (by decide)
            have h2 : L 2 = false := hLi
            rw [h2x] at h2; cases h2
        have hI := hJ.inv nm
        have hpc := HWR.out.kept (row := none) (grown_of_below hI) (Or.inr (by simp [Value.ownBlock]))
        have y0 := hpc.cellAt 0 (by omega)
        have y1 := hpc.cellAt 1 (by omega)
        have y2 := hpc.cellAt 2 (by omega)
        simp only [List.getElem?_cons_zero, List.getElem?_cons_succ] at y0 y1 y2
        clear hpc
        have c1' : ff 1 = _ := hJ.pre 1 (by decide) (hwt 1 (by decide)) nm
        go_big_wp2_with fail
        refine hQ _ _ _ ?_ (hJ.pre_op (i := 2) (by decide) nm (hI) (fun j v h => h.kept (Below.refl _ _)) (rfl))
        first | rfl | (simp [upd, c1']; done)
      · intro L ff kk ww hkk hJ hcl hLi hwt QQ' hQ
        try dsimp only
        have nm : L 13 = false := by
          cases hx : L 13 with
          | false => rfl
          | true =>
            have h13x := hx
            have h11x : L 11 = true := hcl 13 _ rfl h13x 11 (by decide)
            have h3x : L 3 = true := hcl 11 _ rfl h11x 3 (by decide)
            have h2 : L 3 = false := hLi
            rw [h3x] at h2; cases h2
        have hI := hJ.inv nm
        have c2' : ff 2 = _ := hJ.pre 2 (by decide) (hwt 2 (by decide)) nm
        go_big_wp2_with fail
        refine (cut3C 45 45 rfl x0 ww (Nat.le_trans HX0.out (by decide))).mono ?_
        rintro e wa ⟨ps, g, cap, hps, -, hp2, hpz, rfl, hpo, hb2⟩
        go_big_wp2_with fail
        refine hQ _ _ wa ?_ (hJ.pre_op (i := 3) (by decide) nm (hI.trans (hb2.mono hI.size)) (fun j v h => h.kept (hb2)) (⟨ps, g, cap, rfl, hps, hp2, hpz, own_mono (by rw [cellsS_map]; exact hpo) hI.size⟩))
        first | rfl | (simp [upd, c2']; done)
      · intro L ff kk ww hkk hJ hcl hLi hwt QQ' hQ
        try dsimp only
        have nm : L 13 = false := by
          cases hx : L 13 with
          | false => rfl
          | true =>
            have h13x := hx
            have h11x : L 11 = true := hcl 13 _ rfl h13x 11 (by decide)
            have h6x : L 6 = true := hcl 11 _ rfl h11x 6 (by decide)
            have h5x : L 5 = true := hcl 6 _ rfl h6x 5 (by decide)
            have h4x : L 4 = true := hcl 5 _ rfl h5x 4 (by decide)
            have h2 : L 4 = false := hLi
            rw [h4x] at h2; cases h2
        have hI := hJ.inv nm
        go_big_wp2_with fail
        refine hQ _ _ _ ?_ (hJ.pre_op (i := 4) (by decide) nm (hI) (fun j v h => h.kept (Below.refl _ _)) (rfl))
        first | rfl | (simp [upd]; done)
      · intro L ff kk ww hkk hJ hcl hLi hwt QQ' hQ
        try dsimp only
        have nm : L 13 = false := by
          cases hx : L 13 with
          | false => rfl
          | true =>
            have h13x := hx
            have h11x : L 11 = true := hcl 13 _ rfl h13x 11 (by decide)
            have h6x : L 6 = true := hcl 11 _ rfl h11x 6 (by decide)
            have h5x : L 5 = true := hcl 6 _ rfl h6x 5 (by decide)
            have h2 : L 5 = false := hLi
            rw [h5x] at h2; cases h2
        have hI := hJ.inv nm
        have c4' : ff 4 = _ := hJ.pre 4 (by decide) (hwt 4 (by decide)) nm
        go_big_wp2_with fail
        refine hQ _ _ _ ?_ (hJ.pre_op (i := 5) (by decide) nm (hI) (fun j v h => h.kept (Below.refl _ _)) (rfl))
        first | rfl | (simp [upd, c4']; done)
      · intro L ff kk ww hkk hJ hcl hLi hwt QQ' hQ
        try dsimp only
        have nm : L 13 = false := by
          cases hx : L 13 with
          | false => rfl
          | true =>
            have h13x := hx
            have h11x : L 11 = true := hcl 13 _ rfl h13x 11 (by decide)
            have h6x : L 6 = true := hcl 11 _ rfl h11x 6 (by decide)
            have h2 : L 6 = false := hLi
            rw [h6x] at h2; cases h2
        have hI := hJ.inv nm
        have hpc := HWR.out.kept (row := none) (grown_of_below hI) (Or.inr (by simp [Value.ownBlock]))
        have y0 := hpc.cellAt 0 (by omega)
        have y1 := hpc.cellAt 1 (by omega)
        have y2 := hpc.cellAt 2 (by omega)
        simp only [List.getElem?_cons_zero, List.getElem?_cons_succ] at y0 y1 y2
        clear hpc
        have c5' : ff 5 = _ := hJ.pre 5 (by decide) (hwt 5 (by decide)) nm
        go_big_wp2_with fail
        refine hQ _ _ _ ?_ (hJ.pre_op (i := 6) (by decide) nm (hI) (fun j v h => h.kept (Below.refl _ _)) (rfl))
        first | rfl | (simp [upd, c5']; done)
      · intro L ff kk ww hkk hJ hcl hLi hwt QQ' hQ
        try dsimp only
        have nm : L 13 = false := by
          cases hx : L 13 with
          | false => rfl
          | true =>
            have h13x := hx
            have h11x : L 11 = true := hcl 13 _ rfl h13x 11 (by decide)
            have h10x : L 10 = true := hcl 11 _ rfl h11x 10 (by decide)
            have h9x : L 9 = true := hcl 10 _ rfl h10x 9 (by decide)
            have h8x : L 8 = true := hcl 9 _ rfl h9x 8 (by decide)
            have h7x : L 7 = true := hcl 8 _ rfl h8x 7 (by decide)
            have h2 : L 7 = false := hLi
            rw [h7x] at h2; cases h2
        have hI := hJ.inv nm
        go_big_wp2_with fail
        refine hQ _ _ _ ?_ (hJ.pre_op (i := 7) (by decide) nm (hI) (fun j v h => h.kept (Below.refl _ _)) (rfl))
        first | rfl | (simp [upd]; done)
      · intro L ff kk ww hkk hJ hcl hLi hwt QQ' hQ
        try dsimp only
        have nm : L 13 = false := by
          cases hx : L 13 with
          | false => rfl
          | true =>
            have h13x := hx
            have h11x : L 11 = true := hcl 13 _ rfl h13x 11 (by decide)
            have h10x : L 10 = true := hcl 11 _ rfl h11x 10 (by decide)
            have h9x : L 9 = true := hcl 10 _ rfl h10x 9 (by decide)
            have h8x : L 8 = true := hcl 9 _ rfl h9x 8 (by decide)
            have h2 : L 8 = false := hLi
            rw [h8x] at h2; cases h2
        have hI := hJ.inv nm
        have c7' : ff 7 = _ := hJ.pre 7 (by decide) (hwt 7 (by decide)) nm
        go_big_wp2_with fail
        refine hQ _ _ _ ?_ (hJ.pre_op (i := 8) (by decide) nm (hI) (fun j v h => h.kept (Below.refl _ _)) (rfl))
        first | rfl | (simp [upd, c7']; done)
      · intro L ff kk ww hkk hJ hcl hLi hwt QQ' hQ
        try dsimp only
        have nm : L 13 = false := by
          cases hx : L 13 with
          | false => rfl
          | true =>
            have h13x := hx
            have h11x : L 11 = true := hcl 13 _ rfl h13x 11 (by decide)
            have h10x : L 10 = true := hcl 11 _ rfl h11x 10 (by decide)
            have h9x : L 9 = true := hcl 10 _ rfl h10x 9 (by decide)
            have h2 : L 9 = false := hLi
            rw [h9x] at h2; cases h2
        have hI := hJ.inv nm
        have hpc := HWR.out.kept (row := none) (grown_of_below hI) (Or.inr (by simp [Value.ownBlock]))
        have y0 := hpc.cellAt 0 (by omega)
        have y1 := hpc.cellAt 1 (by omega)
        have y2 := hpc.cellAt 2 (by omega)
        simp only [List.getElem?_cons_zero, List.getElem?_cons_succ] at y0 y1 y2
        clear hpc
        have c8' : ff 8 = _ := hJ.pre 8 (by decide) (hwt 8 (by decide)) nm
        go_big_wp2_with fail
        refine hQ _ _ _ ?_ (hJ.pre_op (i := 9) (by decide) nm (hI) (fun j v h => h.kept (Below.refl _ _)) (rfl))
        first | rfl | (simp [upd, c8']; done)
      · intro L ff kk ww hkk hJ hcl hLi hwt QQ' hQ
        try dsimp only
        have nm : L 13 = false := by
          cases hx : L 13 with
          | false => rfl
          | true =>
            have h13x := hx
            have h11x : L 11 = true := hcl 13 _ rfl h13x 11 (by decide)
            have h10x : L 10 = true := hcl 11 _ rfl h11x 10 (by decide)
            have h2 : L 10 = false := hLi
            rw [h10x] at h2; cases h2
        have hI := hJ.inv nm
        have c9' : ff 9 = _ := hJ.pre 9 (by decide) (hwt 9 (by decide)) nm
        go_big_wp2_with fail
        refine (numAt x2 ww (HX2.out)).mono ?_
        rintro e wa ⟨n', rfl, hn', -, -, rfl⟩
        have hn2 := hn'.out
        clear hn'
        subst hn2
        go_big_wp2_with fail
        refine hQ _ _ ww ?_ (hJ.pre_op (i := 10) (by decide) nm (hI) (fun j v h => h.kept (Below.refl _ _)) (rfl))
        first | rfl | (simp [upd, c9']; done)
      · intro L ff kk ww hkk hJ hcl hLi hwt QQ' hQ
        try dsimp only
        have nm : L 13 = false := by
          cases hx : L 13 with
          | false => rfl
          | true =>
            have h13x := hx
            have h11x : L 11 = true := hcl 13 _ rfl h13x 11 (by decide)
            have h2 : L 11 = false := hLi
            rw [h11x] at h2; cases h2
        have hI := hJ.inv nm
        obtain ⟨ps, g, cap, c3, hcut⟩ := hJ.pre 3 (by decide) (hwt 3 (by decide)) nm
        have HCU := Lib.hid hcut
        clear hcut
        have c6' : ff 6 = _ := hJ.pre 6 (by decide) (hwt 6 (by decide)) nm
        have c10' : ff 10 = _ := hJ.pre 10 (by decide) (hwt 10 (by decide)) nm
        go_big_wp2_with fail
        refine hQ _ _ _ ?_ (hJ.pre_op (i := 11) (by decide) nm (hI) (fun j v h => h.kept (Below.refl _ _)) (⟨ps, g, cap, rfl, HCU.out⟩))
        first | rfl | (simp [upd, c6', c10', c3]; done)
      · intro L ff kk ww hkk hJ hcl hLi hwt QQ' hQ
        try dsimp only
        have nm : L 13 = false := by
          cases hx : L 13 with
          | false => rfl
          | true =>
            have h13x := hx
            have h12x : L 12 = true := hcl 13 _ rfl h13x 12 (by decide)
            have h2 : L 12 = false := hLi
            rw [h12x] at h2; cases h2
        have hI := hJ.inv nm
        go_big_wp2_with fail
        refine hQ _ _ (ww.alloc (.cells #[.slice none 0 0, .string ⟨#[]⟩, .int .i64 0] 33)) ?_ (hJ.pre_op (i := 12) (by decide) nm (hI.alloc hI.size _) (fun j v h => h.kept ((Below.refl _ _).alloc (Nat.le_refl _) _)) (⟨ww.heap.size, rfl, heap_alloc_new ww _, hI.size⟩))
        first | rfl | (simp [upd]; done)
      · intro L ff kk ww hkk hJ hcl hLi hwt QQ' hQ
        try dsimp only
        have nm : L 13 = false := hLi
        have hI := hJ.inv nm
        obtain ⟨ps, g, cap, c11, hcut⟩ := hJ.pre 11 (by decide) (hwt 11 (by decide)) nm
        obtain ⟨gx, c12, hx, hgx⟩ := hJ.pre 12 (by decide) (hwt 12 (by decide)) nm
        have HX := Lib.hid hx
        have hne : gx ≠ g := by
          intro e
          subst e
          obtain ⟨g', cap', cur, hv, _, hh, _⟩ := hcut.2.2.2.2.resolve_left (by rintro ⟨q, _⟩; cases q)
          cases hv
          rw [hx] at hh
          cases hh
        have g1 := grown_setRow ww gx (#[.slice (some ⟨g, 0, none⟩) ps.length cap, .string x1, .int .i64 (numV x2.data.toList)])
        have hc2 : Cuts _ 45 x0 (ww.setRow gx #[.slice (some ⟨g, 0, none⟩) ps.length cap, .string x1, .int .i64 (numV x2.data.toList)]) ps g cap := ⟨hcut.1, hcut.2.1, hcut.2.2.1, hcut.2.2.2.kept g1 (Or.inr (by simp [Value.ownBlock]; omega))⟩
        have hR := setRow_heap _ gx _ (#[.slice (some ⟨g, 0, none⟩) ps.length cap, .string x1, .int .i64 (numV x2.data.toList)]) _ _ hx
        have hBz := below_row hI hI.size hgx g1
        have HC2 := Lib.hid hc2
        have HR := Lib.hid hR
        have HBz := Lib.hid hBz
        clear hcut hx g1 hc2 hR hBz
        rw [c11, c12]
        go_big_wp2_with (first
          | (refine wpList_store_row rfl 33 _ _ rfl gx #[.slice (some ⟨g, 0, none⟩) ps.length cap, .string x1, .int .i64 (numV x2.data.toList)] rfl rfl 33 #[.slice none 0 0, .string ⟨#[]⟩, .int .i64 0] HX.out tripSize rfl (trip_one' _ _ _ rfl rfl rfl) ?_)
          | fail)
        refine hQ _ undef (ww.setRow gx #[.slice (some ⟨g, 0, none⟩) ps.length cap, .string x1, .int .i64 (numV x2.data.toList)]) ?_ (TB.end_op undef ⟨gx, ps, g, cap, c12, HR.out, HC2.out, hgx, hne, HBz.out⟩)
        first | rfl | (simp [upd, c11, c12]; done)
    case hend =>
    intro L ff kk w9 hkb hL hJ
    try dsimp only
    have hfin := hJ.done (hL 13 (by decide))
    clear hJ hL


    obtain ⟨gx, ps, g, cap, ez, hx, hcut, hgx, hne, hb9⟩ := hfin
    rw [ez]
    have HB9 := Lib.hid (HB.out.trans (hb9.mono hzw1))
    have HX9 := Lib.hid hx
    have HC9 := Lib.hid hcut
    have HXr := Lib.hid ((hb9.block _ (lt_heap HX1.out)).trans HX1.out)
    have hwl : w.heap.size < w1.heap.size := lt_heap HX1.out
    have hx0 := HX0.out
    have hp2 := hcut.2.1
    have hpl := (hcut.2.2.2.lt g rfl).1
    obtain ⟨z0, z1, z2⟩ := tripCells hx
    have KW := Lib.hid (writeS (some ⟨g, 0, none⟩) cap ps x1 (numV x2.data.toList) w9 (by
        have := hcut.2.2.2; exact strs_own (l := ps) this) (by omega) (fun i hi => by
      have := hcut.2.2.1.out (legAt ps i) (by rw [legAt, List.getD_eq_getElem?_getD, List.getElem?_eq_getElem hi]; exact List.getElem_mem hi)
      omega) HX1s.out)
    clear ez hb9 hx hcut HX1 HWR HB hx0
    go_wp2_with fail
    refine KW.out.mono ?_
    rintro e w5 ⟨o, rfl, ho, d5⟩
    obtain rfl := tripO_of ho.out
    have h9 : w.heap.size ≤ w9.heap.size := HB9.out.size
    have HB5 := Lib.hid (HB9.out.trans (d5.mono h9))
    have HX5 := Lib.hid ((d5.block _ (lt_heap HX9.out)).trans HX9.out)
    have HXr5 := Lib.hid ((d5.block _ (lt_heap HXr.out)).trans HXr.out)
    have HC5 := Lib.hid (HC9.out.kept d5)
    clear ho d5 KW HX9 HXr HB9 z0 z1 z2
    by_cases hq : (tripO ps x1 (numV x2.data.toList)).toList = s.toList
    · have HR := Lib.hid (tm_yes HWS.out hq)
      have z : (!((tripO ps x1 (numV x2.data.toList)).toList == s.toList)) = false := by simp [hq]
      obtain ⟨z0, z1, z2⟩ := tripCells HX5.out
      have g1 := grown_setRow w5 w.heap.size (#[.slice (some ⟨g, 0, none⟩) ps.length cap, .string x1, .int .i64 (numV x2.data.toList)])
      have HBf := Lib.hid (below_row HB5.out HB5.out.size (Nat.le_refl _) g1)
      have F0 := Lib.hid (tripCells (setRow_heap _ w.heap.size _ (#[.slice (some ⟨g, 0, none⟩) ps.length cap, .string x1, .int .i64 (numV x2.data.toList)]) _ _ HXr5.out))
      have HO9 := Lib.hid (own_mono (HC5.out.2.2.2.kept g1 (Or.inr (by simp [Value.ownBlock]; omega))) hzw1)
      clear hq g1
      go_wp2_with (first
        | (refine wpList_store_row rfl 33 _ _ rfl w.heap.size #[.slice (some ⟨g, 0, none⟩) ps.length cap, .string x1, .int .i64 (numV x2.data.toList)] rfl rfl 33 #[.slice none 0 0, .string ⟨#[]⟩, .int .i64 0] HXr5.out tripSize rfl (trip_one' _ _ _ rfl rfl rfl) ?_)
        | fail)
      obtain ⟨f0, f1, f2⟩ := F0.out
      generalize w5.setRow w.heap.size #[.slice (some ⟨g, 0, none⟩) ps.length cap, .string x1, .int .i64 (numV x2.data.toList)] = w8 at *
      (try simp only [Exit.inBlock, Exit.then])
      refine bodyPost_ret (v := .tuple #[.agg #[.slice (some ⟨g, 0, none⟩) ps.length cap, .string x1, .int .i64 (numV x2.data.toList)], .bool true]) ?_ rfl ⟨HBf.out, Or.inr ⟨ps, x1, _, g, cap, HR, rfl, HO9.out⟩⟩
      simp [results, Tryd.results12, go_sem, f0, f1, f2]
    · have HN := Lib.hid (tm_no HWS.out HC5.out.1.out hq)
      have z : (!((tripO ps x1 (numV x2.data.toList)).toList == s.toList)) = true := by simp [hq]
      have HBf := Lib.hid (below_row HB5.out HB5.out.size (Nat.le_refl _) (grown_setRow w5 w.heap.size (#[.slice none 0 0, .string ⟨#[]⟩, .int .i64 0])))
      have F0 := Lib.hid (tripCells (setRow_heap _ w.heap.size _ (#[.slice none 0 0, .string ⟨#[]⟩, .int .i64 0]) _ _ HXr5.out))
      clear hq
      go_wp2_with (first
        | (refine wpList_store_row rfl 33 _ _ rfl w.heap.size #[.slice none 0 0, .string ⟨#[]⟩, .int .i64 0] rfl rfl 33 #[.slice none 0 0, .string ⟨#[]⟩, .int .i64 0] HXr5.out tripSize rfl (trip_one' _ _ _ rfl rfl rfl) ?_)
        | fail)
      obtain ⟨f0, f1, f2⟩ := F0.out
      generalize w5.setRow w.heap.size #[.slice none 0 0, .string ⟨#[]⟩, .int .i64 0] = w8 at *
      (try simp only [Exit.inBlock, Exit.then])
      refine bodyPost_ret (v := .tuple #[.agg #[.slice none 0 0, .string ⟨#[]⟩, .int .i64 0], .bool false]) ?_ rfl ⟨HBf.out, Or.inl ⟨HN, rfl⟩⟩
      simp [results, Tryd.results12, go_sem, f0, f1, f2]
  · have z4 : ((ws.length : Int) == 3) = false := by simp; omega
    have z4n : (ws.length == 3) = false := by simp; omega
    have HN := Lib.hid (tm_three HWS.out h3)
    have HBf := Lib.hid (below_row HB.out HB.out.size (Nat.le_refl _) (grown_setRow w1 w.heap.size (#[.slice none 0 0, .string ⟨#[]⟩, .int .i64 0])))
    have F0 := Lib.hid (tripCells (setRow_heap _ w.heap.size _ (#[.slice none 0 0, .string ⟨#[]⟩, .int .i64 0]) _ _ HX1.out))
    clear h3
    go_wp2_with (first
      | (refine wpList_store_row rfl 33 _ _ rfl w.heap.size #[.slice none 0 0, .string ⟨#[]⟩, .int .i64 0] rfl rfl 33 #[.slice none 0 0, .string ⟨#[]⟩, .int .i64 0] HX1.out tripSize rfl (trip_one' _ _ _ rfl rfl rfl) ?_)
      | fail)
    obtain ⟨f0, f1, f2⟩ := F0.out
    generalize w1.setRow w.heap.size #[.slice none 0 0, .string ⟨#[]⟩, .int .i64 0] = w8 at *
    (try simp only [Exit.inBlock, Exit.then])
    refine bodyPost_ret (v := .tuple #[.agg #[.slice none 0 0, .string ⟨#[]⟩, .int .i64 0], .bool false]) ?_ rfl ⟨HBf.out, Or.inl ⟨HN, rfl⟩⟩
    simp [results, Tryd.results12, go_sem, f0, f1, f2]

end Go.Proofs.YtlfmhhdlandcjaaDoor
