/-
  What is held for a transaction is let go: the model's.
  Where a leg's lists lie behind a call: where they lay, or in memory that was made since.
  What is held for a transaction is let go: the model's, and that what is left lies in memory of its own.
  What is held for a transaction is made sold: the model's.
-/
import Derived.Test.YtdaccpffdnbkiaaGreatDoorJ29
import Derived.Test.YtdaccpffdnbkiaaGreatDoorLegCopyM
import Derived.Deep.RegionLaw
namespace Go.Proofs.YtdaccpffdnbkiaaGreatDoor
open Go.RowKit
set_option linter.unusedVariables false
set_option linter.unusedSimpArgs false

theorem own0d (W : World) (e : TypeId) (size : Nat) : ((W.alloc (.cells #[] e)).drew).ownsRow W.heap.size e size (.slice (some ⟨W.heap.size, 0, none⟩) 0 0) 0 [] := own0 W _ rfl e size
theorem step_append_any {P : Program} {ops : Array Oper} {o : Oper} {a : Act} {w : World} {K : Act → World → Prop} {Q : Exit → Act → World → Prop} {E : Prop} (hgd : o.guard = none) (s x : Operand) (t : TypeId)
    (ho : o.op = .call { callee := .builtin .append, args := #[s, x], argTypes := #[t, t] })
    (base : Nat) (e : TypeId) (i : TypeInfo) (z : Value) (size bytes : Nat) (ht : P.underlying t = some (.slice e)) (hi : P.info? e = some i) (hz : i.zero = some z)
    (hsize : i.size = size) (hby : i.bytes = bytes) (hzs : z.cells.size = size) (hsz : 0 < size)
    (v : Value) (n : Nat) (xs : List Value) (hs : a.eval s = v) (hown : w.ownsRow base e size v n xs)
    (ad : Addr) (m c : Nat) (news : List Value) (hx : a.eval x = .slice (some ad) m c) (hl : news.length = m * size) (hnews : ∀ j u, news[j]? = some u → w.cell? (ad.add j) = some u) (h1 : ∀ u ∈ news, u.oneCell' = true)
    (h63 : n + m ≤ maxLen) (hbytes : (n + m) * bytes ≤ 140737488355328) (hbase : base ≤ w.heap.size)
    (h : ∀ v' w', w'.ownsRow base e size v' (n + m) (xs ++ news) → w.grownBy w' v.ownBlock → K (a.put o.dst v') w') :
    if Region.wanted o (yielded ops a.tmps) = true then Oper.wp P o a w K Q else E := by
  rw [if_pos (by simp [Region.wanted, hgd])]
  obtain ⟨v', w', hr, h2, h3, -⟩ := run_append_own (P := P) w base t o.type e i z size bytes ht hi hz hsize hby hzs hsz v n xs hown ad m c news hl hnews h1 h63 hbytes hbase
  unfold Oper.wp execOp
  simp only [ho, resolve, invoke, builtin, Sem.run_bind, Sem.run_pure, Result.andThen_ok, List.map_toArray, List.map_cons, List.map_nil, hs, hx, hr]
  exact h v' w' h2 h3
/-- What is held, but for the k-th, as two rows. -/
theorem flatN_app (L M : List Nd) : flatN (L ++ M) = flatN L ++ flatN M := by simp [flatN]
def cutN (d : LegD) (k : Nat) : List Nd := ndsOf d.t d.c d.s k ++ ndsOf (fun i => d.t (k + 1 + i)) (fun i => d.c (k + 1 + i)) (fun i => d.s (k + 1 + i)) (d.nH - (k + 1))
theorem cutN_len {d : LegD} {k : Nat} (hk : k < d.nH) : (cutN d k).length = d.nH - 1 := by simp only [cutN, List.length_append, ndsOf_len]; omega
theorem cutN_at {d : LegD} {k i : Nat} (hk : k < d.nH) (hi : i < d.nH - 1) : tN (cutN d k) i = d.t (sk k i) ∧ cN (cutN d k) i = d.c (sk k i) ∧ sN (cutN d k) i = d.s (sk k i) := by
  have hl : i < (cutN d k).length := by rw [cutN_len hk]; exact hi
  have e := List.getElem?_eq_getElem hl
  have ev : tN (cutN d k) i = (cutN d k)[i].t ∧ cN (cutN d k) i = (cutN d k)[i].c ∧ sN (cutN d k) i = (cutN d k)[i].s := by
    simp [tN, cN, sN, List.getD_eq_getElem?_getD, List.getElem?_map, e]
  rw [ev.1, ev.2.1, ev.2.2]
  have e2 : (cutN d k)[i]? = some ⟨0, d.t (sk k i), d.c (sk k i), d.s (sk k i)⟩ := by
    unfold cutN sk
    rcases Nat.lt_or_ge i k with h | h
    · rw [List.getElem?_append_left (by rw [ndsOf_len]; exact h), if_pos h]; simp [ndsOf, h]
    · rw [List.getElem?_append_right (by rw [ndsOf_len]; exact h), if_neg (by omega), ndsOf_len]
      have h2 : i - k < d.nH - (k + 1) := by omega
      have h3 : k + 1 + (i - k) = i + 1 := by omega
      simp [ndsOf, h2, h3]
  have e3 := Option.some.inj (e.symm.trans e2)
  rw [e3]
  exact ⟨rfl, rfl, rfl⟩

theorem join_own {w : World} {N k : Nat} {v : Value} {d : LegD} (hk : k < d.nH)
    (h : w.ownsRow N 58 3 v (0 + k + (d.nH - (k + 1))) ([] ++ flatN (ndsOf d.t d.c d.s k) ++ flatN (ndsOf (fun i => d.t (k + 1 + i)) (fun i => d.c (k + 1 + i)) (fun i => d.s (k + 1 + i)) (d.nH - (k + 1))))) :
    w.ownsRow N 58 3 v (cutN d k).length (flatN (cutN d k)) := by
  rw [cutN_len hk, show d.nH - 1 = 0 + k + (d.nH - (k + 1)) from by omega]
  unfold cutN
  rw [flatN_app]
  exact h
theorem cut_same {d : LegD} {k : Nat} (hk : k < d.nH) : LegSame (withH d (cutN d k)) (delH d k) :=
  ⟨rfl, rfl, rfl, rfl, rfl, rfl, rfl, rfl, rfl, cutN_len hk, fun _ _ => rfl, fun _ _ => rfl, fun _ _ => rfl, fun i hi => cutN_at hk (by have : i < (cutN d k).length := hi; rw [cutN_len hk] at this; exact this)⟩
set_option maxRecDepth 100000 in
set_option maxHeartbeats 8000000 in
theorem dropM (d : LegD) (p : LegP) (txn : Int) (w : World) (hin : LegIn w d p) (ho : HoldsOk d) (hcH : d.nH ≤ p.cH) :
    Calls Tryz.prog 79 #[LegV d p, .int .i64 txn] w fun e w' => (∃ a c, e = .returned (LegV (dropD d txn) { p with aH := a, cH := c }) ∧ (dropD d txn).nH ≤ c ∧ LegIn w' (dropD d txn) { p with aH := a, cH := c }) ∧ Below w.heap.size w w' := by
  obtain ⟨j0, ji, jz0, jz1, jz2⟩ := info_parts infoHold
  have hbC : Below w.heap.size w ((w.alloc (.cells (LegC d p) 25)).alloc (.cells #[.string ⟨#[]⟩, .string ⟨#[]⟩, .string ⟨#[]⟩, .int .i64 0, .int .i64 0, .int .i64 0, .slice none 0 0, .slice none 0 0, .slice none 0 0, .slice none 0 0] 25)) := ((Below.refl _ _).alloc (Nat.le_refl _) _).alloc (by simp) _
  have hX : LegBox ((w.alloc (.cells (LegC d p) 25)).alloc (.cells #[.string ⟨#[]⟩, .string ⟨#[]⟩, .string ⟨#[]⟩, .int .i64 0, .int .i64 0, .int .i64 0, .slice none 0 0, .slice none 0 0, .slice none 0 0, .slice none 0 0] 25)) w.heap.size d p := (LegBox.new w d p).kept ((Below.refl _ _).alloc (Nat.le_refl _) _)
  have hR : ((w.alloc (.cells (LegC d p) 25)).alloc (.cells #[.string ⟨#[]⟩, .string ⟨#[]⟩, .string ⟨#[]⟩, .int .i64 0, .int .i64 0, .int .i64 0, .slice none 0 0, .slice none 0 0, .slice none 0 0, .slice none 0 0] 25)).heap[w.heap.size + 1]? = some (.cells #[.string ⟨#[]⟩, .string ⟨#[]⟩, .string ⟨#[]⟩, .int .i64 0, .int .i64 0, .int .i64 0, .slice none 0 0, .slice none 0 0, .slice none 0 0, .slice none 0 0] 25 (0, 0)) := by
    have := heap_alloc_new (w.alloc (.cells (LegC d p) 25)) (.cells #[.string ⟨#[]⟩, .string ⟨#[]⟩, .string ⟨#[]⟩, .int .i64 0, .int .i64 0, .int .i64 0, .slice none 0 0, .slice none 0 0, .slice none 0 0, .slice none 0 0] 25)
    rwa [World.size_alloc] at this
  have Hin := Lib.hid hin
  have D0 := Lib.hid hbC
  have X0 := Lib.hid hX
  have R0 := Lib.hid hR
  have HO := Lib.hid ho
  have hn6 := ho.1
  have b0 := hX.c0
  have b1 := hX.c1
  have b2 := hX.c2
  have b3 := hX.c3
  have b4 := hX.c4
  have b5 := hX.c5
  have b6 := hX.c6
  have b7 := hX.c7
  have b8 := hX.c8
  have b9 := hX.c9
  rw [LegV_eq]
  generalize hLC : LegC d p = LC at *
  clear hbC hX hR hin hLC ho
  go_enter Tryz.func79, Tryz.ntmps79
  go_wp2_with fail
  generalize ((w.alloc (.cells LC 25)).alloc (.cells #[.string ⟨#[]⟩, .string ⟨#[]⟩, .string ⟨#[]⟩, .int .i64 0, .int .i64 0, .int .i64 0, .slice none 0 0, .slice none 0 0, .slice none 0 0, .slice none 0 0] 25)) = W0 at *
  refine (heldM d p txn W0 (Hin.out.kept D0.out) (by omega)).mono ?_
  rintro e w1 ⟨⟨k, b, hat, rfl, hb⟩, d1⟩
  have X1 := X0.out.kept d1
  have R1 := Lib.hid ((d1.block _ (lt_heap R0.out)).trans R0.out)
  have D1 := Lib.hid (bt D0.out d1)
  have hl0 := lt_heap R0.out
  have hl1 := d1.size
  have X1h := Lib.hid X1
  have HP := Lib.hid (held_pos HO.out hat)
  have HKle := hat.1
  clear b0 b1 b2 b3 b4 b5 b6 b7 b8 b9 d1 hat
  have b0 := X1.c0
  have b1 := X1.c1
  have b2 := X1.c2
  have b3 := X1.c3
  have b4 := X1.c4
  have b5 := X1.c5
  have b6 := X1.c6
  have b7 := X1.c7
  have b8 := X1.c8
  have b9 := X1.c9
  clear X1
  cases b with
  | false =>
    have hdrop : Hid (dropD d txn = d) := by
      have hno : ¬ (k < d.nH ∧ d.t k = txn) := fun h => by have := hb.out.2 h; cases this
      show _ = _
      unfold dropD
      rw [HP.out.2 hno, if_neg (by omega)]
    clear hb
    go_wp2_with (first
      | (refine wpList_store_row rfl 25 _ _ rfl (w.heap.size + 1) (LegC d p) rfl rfl 25 #[.string ⟨#[]⟩, .string ⟨#[]⟩, .string ⟨#[]⟩, .int .i64 0, .int .i64 0, .int .i64 0, .slice none 0 0, .slice none 0 0, .slice none 0 0, .slice none 0 0] R1.out legSize rfl (leg_one1 d p) ?_)
      | fail)
    have hfin : LegBox (w1.setRow (w.heap.size + 1) (LegC d p)) (w.heap.size + 1) d p := setRow_heap w1 (w.heap.size + 1) _ _ _ _ R1.out
    have gr := grown_setRow w1 (w.heap.size + 1) (LegC d p)
    have hb2 := Lib.hid (D1.out.grown gr D1.out.size (fun q e => by cases e; omega))
    clear b0 b1 b2 b3 b4 b5 b6 b7 b8 b9
    generalize w1.setRow (w.heap.size + 1) (LegC d p) = W2 at *
    have y0 := hfin.c0
    have y1 := hfin.c1
    have y2 := hfin.c2
    have y3 := hfin.c3
    have y4 := hfin.c4
    have y5 := hfin.c5
    have y6 := hfin.c6
    have y7 := hfin.c7
    have y8 := hfin.c8
    have y9 := hfin.c9
    clear hfin gr
    refine bodyPost_ret (v := LegV d p) ?_ rfl ⟨⟨p.aH, p.cH, by rw [hdrop.out], by rw [hdrop.out]; exact hcH, by rw [hdrop.out]; exact Hin.out.kept hb2.out⟩, hb2.out⟩
    rw [LegV_eq]
    unfold LegC
    rw [results_cell1 rfl]
    go_simp
  | true =>
    have hyes := hb.out.1 rfl
    have hlt := hyes.1
    have hdrop : Hid (dropD d txn = delH d k) := by
      show _ = _
      unfold dropD
      rw [HP.out.1 hyes, if_pos hlt]
    clear hb hyes
    obtain ⟨bH, oH, eH, hbH, hcell⟩ := Hin.out.2.2.2.cells (by omega)
    rw [eH] at b9
    have HE := Lib.hid eH
    have K1 : Hid (∀ W, Below w.heap.size w W → ∀ i, i < k → W.cell? ⟨bH, oH + i * 3, none⟩ = some (.int .i64 (d.t i)) ∧ W.cell? ⟨bH, oH + i * 3 + 1, none⟩ = some (.int .i64 (d.c i)) ∧ W.cell? ⟨bH, oH + i * 3 + 2, none⟩ = some (.int .i64 (d.s i))) := fun W hb i hi => ⟨cell_kept hb hbH (hcell i (by omega)).1, cell_kept hb hbH (hcell i (by omega)).2.1, cell_kept hb hbH (hcell i (by omega)).2.2⟩
    obtain ⟨o2, hif, hk2⟩ : ∃ o2, (if p.cH = k + 1 then some (⟨bH, oH, none⟩ : Addr) else some ⟨bH, oH + (k + 1) * 3, none⟩) = some ⟨bH, o2, none⟩ ∧ ∀ W, Below w.heap.size w W → ∀ i, i < d.nH - (k + 1) → W.cell? ⟨bH, o2 + i * 3, none⟩ = some (.int .i64 (d.t (k + 1 + i))) ∧ W.cell? ⟨bH, o2 + i * 3 + 1, none⟩ = some (.int .i64 (d.c (k + 1 + i))) ∧ W.cell? ⟨bH, o2 + i * 3 + 2, none⟩ = some (.int .i64 (d.s (k + 1 + i))) := by
      by_cases hc : p.cH = k + 1
      · exact ⟨oH, if_pos hc, fun W hb i hi => by omega⟩
      · refine ⟨oH + (k + 1) * 3, if_neg hc, fun W hb i hi => ?_⟩
        have := hcell (k + 1 + i) (by omega)
        rw [show oH + (k + 1 + i) * 3 = oH + (k + 1) * 3 + i * 3 from by omega] at this
        exact ⟨cell_kept hb hbH this.1, cell_kept hb hbH this.2.1, cell_kept hb hbH this.2.2⟩
    have K2 := Lib.hid hk2
    clear hk2
    have k1 : (k : Int) < d.nH := by omega
    have k0 : (0 : Int) ≤ k := by omega
    have k2 : (k : Int) ≤ d.nH := by omega
    have k3 : (k : Int) + 1 ≤ d.nH := by omega
    have k4 : (0 : Int) ≤ (k : Int) + 1 := by omega
    have kc : (k : Int) ≤ p.cH := by omega
    have kc2 : (d.nH : Int) ≤ p.cH := by omega
    have kw : IntKind.i64.wrap ((k : Int) + 1) = (k : Int) + 1 := IntWalk.i64_in _ (by omega)
    have bA9 := (X1h.out.kept ((Below.refl _ _).alloc (Nat.le_refl _) (.cells #[] 58))).c9
    rw [eH] at bA9
    clear hcell eH
    go_wp2_with fail
    go_region_law (first
      | (refine step_append_any rfl _ _ 23 rfl w1.heap.size 58 j0 (.agg #[.int .i64 0, .int .i64 0, .int .i64 0]) 3 24 Tryz.underlying23 ji jz0 jz1 jz2 rfl (by decide) (.slice (some ⟨w1.heap.size, 0, none⟩) 0 0) 0 [] rfl (own0d w1 _ _) ⟨bH, oH, none⟩ k p.cH (flatN (ndsOf d.t d.c d.s k)) rfl ?_ ?_ (flatN_one _) ?_ ?_ ?_ ?_; rw [flatN_len, ndsOf_len]; exact newsH_cells (K1.out _ ((D1.out.alloc D1.out.size _).drew)); (unfold maxLen; omega); omega; (show w1.heap.size ≤ (w1.alloc _).heap.size; simp); intro v2 w2 ho2 hg2; have D12 : Below w1.heap.size w1 w2 := (((Below.refl _ w1).alloc (Nat.le_refl _) _).drew).grown hg2 (by show w1.heap.size ≤ (w1.alloc _).heap.size; simp) (fun q e => by cases e; exact Nat.le_refl _); have X2 := X1h.out.kept D12; have b29 := X2.c9; have f29 := X2.fr 9; rw [HE.out] at b29)
      | (refine step_append_any rfl _ _ 23 rfl w1.heap.size 58 j0 (.agg #[.int .i64 0, .int .i64 0, .int .i64 0]) 3 24 Tryz.underlying23 ji jz0 jz1 jz2 rfl (by decide) v2 (0 + k) _ rfl ho2 ⟨bH, o2, none⟩ (d.nH - (k + 1)) (p.cH - (k + 1)) (flatN (ndsOf (fun i => d.t (k + 1 + i)) (fun i => d.c (k + 1 + i)) (fun i => d.s (k + 1 + i)) (d.nH - (k + 1)))) rfl ?_ ?_ (flatN_one _) ?_ ?_ ?_ ?_; rw [flatN_len, ndsOf_len]; exact newsH_cells (K2.out _ (bt D1.out D12)); (unfold maxLen; omega); omega; exact D12.size; intro v3 w3 ho3 hg3; have D23 : Below w1.heap.size w1 w3 := D12.grown hg3 D12.size (fun q e => (ho2.lt q e).1); have X3 := X1h.out.kept D23; have b39 := X3.c9; have f39 := X3.fr 9; rw [HE.out] at b39; have ho4 := join_own hlt ho3; obtain ⟨a3, c3, rfl, hc3, n3⟩ := own_holdsR ho4))
    all_goals
      clear bA9 b29 f29 b39 f39 hif ho2 hg2 ho3 hg3 ho4 b0 b1 b2 b3 b4 b5 b6 b7 b8 b9
      have X4 : LegBox (w3.setCell ⟨w.heap.size, 9, none⟩ (.slice a3 (cutN d k).length c3)) w.heap.size (withH d (cutN d k)) { p with aH := a3, cH := c3 } := X3.set9 (cutN d k) a3 c3
      have R4 : (w3.setCell ⟨w.heap.size, 9, none⟩ (.slice a3 (cutN d k).length c3)).heap[w.heap.size + 1]? = some (.cells #[.string ⟨#[]⟩, .string ⟨#[]⟩, .string ⟨#[]⟩, .int .i64 0, .int .i64 0, .int .i64 0, .slice none 0 0, .slice none 0 0, .slice none 0 0, .slice none 0 0] 25 (0, 0)) := (set_other _ (by omega)).trans ((D23.block _ (lt_heap R1.out)).trans R1.out)
      have gs4 := grown_set w3 ⟨w.heap.size, 9, none⟩ (.slice a3 (cutN d k).length c3)
      have n4 := n3.far gs4 (fun q e => by cases e; left; show w.heap.size < _; omega)
      have D4 := (bt D1.out D23).setCell (p := ⟨w.heap.size, 9, none⟩) (Nat.le_refl _) (.slice a3 (cutN d k).length c3)
      have N4h := Lib.hid n4
      have D4h := Lib.hid D4
      have R4h := Lib.hid R4
      clear n3 n4 D4 R4 gs4 X2 X3 D12 D23
      generalize w3.setCell ⟨w.heap.size, 9, none⟩ (.slice a3 (cutN d k).length c3) = W4 at *
      have g0 := X4.c0
      have g1 := X4.c1
      have g2 := X4.c2
      have g3 := X4.c3
      have g4 := X4.c4
      have g5 := X4.c5
      have g6 := X4.c6
      have g7 := X4.c7
      have g8 := X4.c8
      have g9 := X4.c9
      clear X4
      go_wp2_with (first
        | (refine wpList_store_row rfl 25 _ _ rfl (w.heap.size + 1) (LegC (withH d (cutN d k)) { p with aH := a3, cH := c3 }) rfl rfl 25 #[.string ⟨#[]⟩, .string ⟨#[]⟩, .string ⟨#[]⟩, .int .i64 0, .int .i64 0, .int .i64 0, .slice none 0 0, .slice none 0 0, .slice none 0 0, .slice none 0 0] R4h.out legSize rfl (leg_one1 _ _) ?_)
        | fail)
      clear g0 g1 g2 g3 g4 g5 g6 g7 g8 g9
      have hfin : LegBox (W4.setRow (w.heap.size + 1) (LegC (withH d (cutN d k)) { p with aH := a3, cH := c3 })) (w.heap.size + 1) (withH d (cutN d k)) { p with aH := a3, cH := c3 } := setRow_heap W4 (w.heap.size + 1) _ _ _ _ R4h.out
      have gr := grown_setRow W4 (w.heap.size + 1) (LegC (withH d (cutN d k)) { p with aH := a3, cH := c3 })
      have hb6 := D4h.out.grown gr D4h.out.size (fun q e => by cases e; omega)
      have n6 := N4h.out.far gr (fun q e => by cases e; left; omega)
      have HN6 := Lib.hid n6.holds
      generalize W4.setRow (w.heap.size + 1) (LegC (withH d (cutN d k)) { p with aH := a3, cH := c3 }) = W6 at *
      have y0 := hfin.c0
      have y1 := hfin.c1
      have y2 := hfin.c2
      have y3 := hfin.c3
      have y4 := hfin.c4
      have y5 := hfin.c5
      have y6 := hfin.c6
      have y7 := hfin.c7
      have y8 := hfin.c8
      have y9 := hfin.c9
      clear hfin gr n6
      have hs := cut_same hlt
      have hV : LegV (withH d (cutN d k)) { p with aH := a3, cH := c3 } = LegV (dropD d txn) { p with aH := a3, cH := c3 } := by rw [hdrop.out]; exact LegV.same hs _
      have hI : LegIn W6 (dropD d txn) { p with aH := a3, cH := c3 } := by
        rw [hdrop.out]
        have hin6 := Hin.out.kept hb6
        exact LegIn.same (a := withH d (cutN d k)) ⟨hin6.1, hin6.2.1, hin6.2.2.1, HN6.out⟩ hs
      refine bodyPost_ret (v := LegV (withH d (cutN d k)) { p with aH := a3, cH := c3 }) ?_ rfl ⟨⟨a3, c3, by rw [hV], by rw [hdrop.out]; show d.nH - 1 ≤ c3; rw [cutN_len hlt] at hc3; exact hc3, hI⟩, hb6⟩
      rw [LegV_eq]
      unfold LegC
      rw [results_cell1 rfl]
      go_simp
end Go.Proofs.YtdaccpffdnbkiaaGreatDoor

namespace Go.Proofs.YtdaccpffdnbkiaaGreatDoor
open Go.RowKit
set_option linter.unusedVariables false
set_option linter.unusedSimpArgs false

def NewAt (w : World) (a : Option Addr) : Prop := ∀ x, a = some x → w.heap.size ≤ x.block
def Moved (w : World) (n : Nat) (p p' : LegP) : Prop := p'.aL = p.aL ∧ p'.aB = p.aB ∧ (p'.aS = p.aS ∨ NewAt w p'.aS) ∧ (p'.aH = p.aH ∨ n = 0 ∨ NewAt w p'.aH)
theorem Moved.same (w : World) (n : Nat) (p : LegP) : Moved w n p p := ⟨rfl, rfl, .inl rfl, .inl rfl⟩
theorem HoldsR.newAt {lo hi : Nat} {W w : World} {a : Option Addr} {len : Nat} {t c s : Nat → Int} (h : HoldsR lo hi W a len t c s) (hw : w.heap.size ≤ lo) : len = 0 ∨ NewAt w a := by
  rcases h with h | ⟨g, ha, h1, -⟩
  · exact .inl h
  · refine .inr fun x hx => ?_
    rw [ha] at hx
    cases hx
    show w.heap.size ≤ g
    omega
end Go.Proofs.YtdaccpffdnbkiaaGreatDoor

namespace Go.Proofs.YtdaccpffdnbkiaaGreatDoor
open Go.RowKit
set_option linter.unusedVariables false
set_option linter.unusedSimpArgs false

set_option maxRecDepth 100000 in
set_option maxHeartbeats 8000000 in
theorem dropN (d : LegD) (p : LegP) (txn : Int) (w : World) (hin : LegIn w d p) (ho : HoldsOk d) (hcH : d.nH ≤ p.cH) :
    Calls Tryz.prog 79 #[LegV d p, .int .i64 txn] w fun e w' => (∃ a c, e = .returned (LegV (dropD d txn) { p with aH := a, cH := c }) ∧ (dropD d txn).nH ≤ c ∧ LegIn w' (dropD d txn) { p with aH := a, cH := c } ∧ (posT d.t txn d.nH < d.nH → HoldsR w.heap.size w'.heap.size w' a (dropD d txn).nH (dropD d txn).t (dropD d txn).c (dropD d txn).s)) ∧ Below w.heap.size w w' := by
  obtain ⟨j0, ji, jz0, jz1, jz2⟩ := info_parts infoHold
  have hbC : Below w.heap.size w ((w.alloc (.cells (LegC d p) 25)).alloc (.cells #[.string ⟨#[]⟩, .string ⟨#[]⟩, .string ⟨#[]⟩, .int .i64 0, .int .i64 0, .int .i64 0, .slice none 0 0, .slice none 0 0, .slice none 0 0, .slice none 0 0] 25)) := ((Below.refl _ _).alloc (Nat.le_refl _) _).alloc (by simp) _
  have hX : LegBox ((w.alloc (.cells (LegC d p) 25)).alloc (.cells #[.string ⟨#[]⟩, .string ⟨#[]⟩, .string ⟨#[]⟩, .int .i64 0, .int .i64 0, .int .i64 0, .slice none 0 0, .slice none 0 0, .slice none 0 0, .slice none 0 0] 25)) w.heap.size d p := (LegBox.new w d p).kept ((Below.refl _ _).alloc (Nat.le_refl _) _)
  have hR : ((w.alloc (.cells (LegC d p) 25)).alloc (.cells #[.string ⟨#[]⟩, .string ⟨#[]⟩, .string ⟨#[]⟩, .int .i64 0, .int .i64 0, .int .i64 0, .slice none 0 0, .slice none 0 0, .slice none 0 0, .slice none 0 0] 25)).heap[w.heap.size + 1]? = some (.cells #[.string ⟨#[]⟩, .string ⟨#[]⟩, .string ⟨#[]⟩, .int .i64 0, .int .i64 0, .int .i64 0, .slice none 0 0, .slice none 0 0, .slice none 0 0, .slice none 0 0] 25 (0, 0)) := by
    have := heap_alloc_new (w.alloc (.cells (LegC d p) 25)) (.cells #[.string ⟨#[]⟩, .string ⟨#[]⟩, .string ⟨#[]⟩, .int .i64 0, .int .i64 0, .int .i64 0, .slice none 0 0, .slice none 0 0, .slice none 0 0, .slice none 0 0] 25)
    rwa [World.size_alloc] at this
  have Hin := Lib.hid hin
  have D0 := Lib.hid hbC
  have X0 := Lib.hid hX
  have R0 := Lib.hid hR
  have HO := Lib.hid ho
  have hn6 := ho.1
  have b0 := hX.c0
  have b1 := hX.c1
  have b2 := hX.c2
  have b3 := hX.c3
  have b4 := hX.c4
  have b5 := hX.c5
  have b6 := hX.c6
  have b7 := hX.c7
  have b8 := hX.c8
  have b9 := hX.c9
  rw [LegV_eq]
  generalize hLC : LegC d p = LC at *
  clear hbC hX hR hin hLC ho
  go_enter Tryz.func79, Tryz.ntmps79
  go_wp2_with fail
  generalize ((w.alloc (.cells LC 25)).alloc (.cells #[.string ⟨#[]⟩, .string ⟨#[]⟩, .string ⟨#[]⟩, .int .i64 0, .int .i64 0, .int .i64 0, .slice none 0 0, .slice none 0 0, .slice none 0 0, .slice none 0 0] 25)) = W0 at *
  refine (heldM d p txn W0 (Hin.out.kept D0.out) (by omega)).mono ?_
  rintro e w1 ⟨⟨k, b, hat, rfl, hb⟩, d1⟩
  have X1 := X0.out.kept d1
  have R1 := Lib.hid ((d1.block _ (lt_heap R0.out)).trans R0.out)
  have D1 := Lib.hid (bt D0.out d1)
  have hl0 := lt_heap R0.out
  have hl1 := d1.size
  have X1h := Lib.hid X1
  have HP := Lib.hid (held_pos HO.out hat)
  have HKle := hat.1
  clear b0 b1 b2 b3 b4 b5 b6 b7 b8 b9 d1 hat
  have b0 := X1.c0
  have b1 := X1.c1
  have b2 := X1.c2
  have b3 := X1.c3
  have b4 := X1.c4
  have b5 := X1.c5
  have b6 := X1.c6
  have b7 := X1.c7
  have b8 := X1.c8
  have b9 := X1.c9
  clear X1
  cases b with
  | false =>
    have hdrop : Hid (dropD d txn = d) := by
      have hno : ¬ (k < d.nH ∧ d.t k = txn) := fun h => by have := hb.out.2 h; cases this
      show _ = _
      unfold dropD
      rw [HP.out.2 hno, if_neg (by omega)]
    have hnp : Hid (posT d.t txn d.nH = d.nH) := Lib.hid (HP.out.2 (fun h => by have := hb.out.2 h; cases this))
    clear hb
    go_wp2_with (first
      | (refine wpList_store_row rfl 25 _ _ rfl (w.heap.size + 1) (LegC d p) rfl rfl 25 #[.string ⟨#[]⟩, .string ⟨#[]⟩, .string ⟨#[]⟩, .int .i64 0, .int .i64 0, .int .i64 0, .slice none 0 0, .slice none 0 0, .slice none 0 0, .slice none 0 0] R1.out legSize rfl (leg_one1 d p) ?_)
      | fail)
    have hfin : LegBox (w1.setRow (w.heap.size + 1) (LegC d p)) (w.heap.size + 1) d p := setRow_heap w1 (w.heap.size + 1) _ _ _ _ R1.out
    have gr := grown_setRow w1 (w.heap.size + 1) (LegC d p)
    have hb2 := Lib.hid (D1.out.grown gr D1.out.size (fun q e => by cases e; omega))
    clear b0 b1 b2 b3 b4 b5 b6 b7 b8 b9
    generalize w1.setRow (w.heap.size + 1) (LegC d p) = W2 at *
    have y0 := hfin.c0
    have y1 := hfin.c1
    have y2 := hfin.c2
    have y3 := hfin.c3
    have y4 := hfin.c4
    have y5 := hfin.c5
    have y6 := hfin.c6
    have y7 := hfin.c7
    have y8 := hfin.c8
    have y9 := hfin.c9
    clear hfin gr
    refine bodyPost_ret (v := LegV d p) ?_ rfl ⟨⟨p.aH, p.cH, by rw [hdrop.out], by rw [hdrop.out]; exact hcH, by rw [hdrop.out]; exact Hin.out.kept hb2.out, fun q => absurd q (by have := hnp.out; omega)⟩, hb2.out⟩
    rw [LegV_eq]
    unfold LegC
    rw [results_cell1 rfl]
    go_simp
  | true =>
    have hyes := hb.out.1 rfl
    have hlt := hyes.1
    have hdrop : Hid (dropD d txn = delH d k) := by
      show _ = _
      unfold dropD
      rw [HP.out.1 hyes, if_pos hlt]
    clear hb hyes
    obtain ⟨bH, oH, eH, hbH, hcell⟩ := Hin.out.2.2.2.cells (by omega)
    rw [eH] at b9
    have HE := Lib.hid eH
    have K1 : Hid (∀ W, Below w.heap.size w W → ∀ i, i < k → W.cell? ⟨bH, oH + i * 3, none⟩ = some (.int .i64 (d.t i)) ∧ W.cell? ⟨bH, oH + i * 3 + 1, none⟩ = some (.int .i64 (d.c i)) ∧ W.cell? ⟨bH, oH + i * 3 + 2, none⟩ = some (.int .i64 (d.s i))) := fun W hb i hi => ⟨cell_kept hb hbH (hcell i (by omega)).1, cell_kept hb hbH (hcell i (by omega)).2.1, cell_kept hb hbH (hcell i (by omega)).2.2⟩
    obtain ⟨o2, hif, hk2⟩ : ∃ o2, (if p.cH = k + 1 then some (⟨bH, oH, none⟩ : Addr) else some ⟨bH, oH + (k + 1) * 3, none⟩) = some ⟨bH, o2, none⟩ ∧ ∀ W, Below w.heap.size w W → ∀ i, i < d.nH - (k + 1) → W.cell? ⟨bH, o2 + i * 3, none⟩ = some (.int .i64 (d.t (k + 1 + i))) ∧ W.cell? ⟨bH, o2 + i * 3 + 1, none⟩ = some (.int .i64 (d.c (k + 1 + i))) ∧ W.cell? ⟨bH, o2 + i * 3 + 2, none⟩ = some (.int .i64 (d.s (k + 1 + i))) := by
      by_cases hc : p.cH = k + 1
      · exact ⟨oH, if_pos hc, fun W hb i hi => by omega⟩
      · refine ⟨oH + (k + 1) * 3, if_neg hc, fun W hb i hi => ?_⟩
        have := hcell (k + 1 + i) (by omega)
        rw [show oH + (k + 1 + i) * 3 = oH + (k + 1) * 3 + i * 3 from by omega] at this
        exact ⟨cell_kept hb hbH this.1, cell_kept hb hbH this.2.1, cell_kept hb hbH this.2.2⟩
    have K2 := Lib.hid hk2
    clear hk2
    have k1 : (k : Int) < d.nH := by omega
    have k0 : (0 : Int) ≤ k := by omega
    have k2 : (k : Int) ≤ d.nH := by omega
    have k3 : (k : Int) + 1 ≤ d.nH := by omega
    have k4 : (0 : Int) ≤ (k : Int) + 1 := by omega
    have kc : (k : Int) ≤ p.cH := by omega
    have kc2 : (d.nH : Int) ≤ p.cH := by omega
    have kw : IntKind.i64.wrap ((k : Int) + 1) = (k : Int) + 1 := IntWalk.i64_in _ (by omega)
    have bA9 := (X1h.out.kept ((Below.refl _ _).alloc (Nat.le_refl _) (.cells #[] 58))).c9
    rw [eH] at bA9
    clear hcell eH
    go_wp2_with fail
    go_region_law (first
      | (refine step_append_any rfl _ _ 23 rfl w1.heap.size 58 j0 (.agg #[.int .i64 0, .int .i64 0, .int .i64 0]) 3 24 Tryz.underlying23 ji jz0 jz1 jz2 rfl (by decide) (.slice (some ⟨w1.heap.size, 0, none⟩) 0 0) 0 [] rfl (own0d w1 _ _) ⟨bH, oH, none⟩ k p.cH (flatN (ndsOf d.t d.c d.s k)) rfl ?_ ?_ (flatN_one _) ?_ ?_ ?_ ?_; rw [flatN_len, ndsOf_len]; exact newsH_cells (K1.out _ ((D1.out.alloc D1.out.size _).drew)); (unfold maxLen; omega); omega; (show w1.heap.size ≤ (w1.alloc _).heap.size; simp); intro v2 w2 ho2 hg2; have D12 : Below w1.heap.size w1 w2 := (((Below.refl _ w1).alloc (Nat.le_refl _) _).drew).grown hg2 (by show w1.heap.size ≤ (w1.alloc _).heap.size; simp) (fun q e => by cases e; exact Nat.le_refl _); have X2 := X1h.out.kept D12; have b29 := X2.c9; have f29 := X2.fr 9; rw [HE.out] at b29)
      | (refine step_append_any rfl _ _ 23 rfl w1.heap.size 58 j0 (.agg #[.int .i64 0, .int .i64 0, .int .i64 0]) 3 24 Tryz.underlying23 ji jz0 jz1 jz2 rfl (by decide) v2 (0 + k) _ rfl ho2 ⟨bH, o2, none⟩ (d.nH - (k + 1)) (p.cH - (k + 1)) (flatN (ndsOf (fun i => d.t (k + 1 + i)) (fun i => d.c (k + 1 + i)) (fun i => d.s (k + 1 + i)) (d.nH - (k + 1)))) rfl ?_ ?_ (flatN_one _) ?_ ?_ ?_ ?_; rw [flatN_len, ndsOf_len]; exact newsH_cells (K2.out _ (bt D1.out D12)); (unfold maxLen; omega); omega; exact D12.size; intro v3 w3 ho3 hg3; have D23 : Below w1.heap.size w1 w3 := D12.grown hg3 D12.size (fun q e => (ho2.lt q e).1); have X3 := X1h.out.kept D23; have b39 := X3.c9; have f39 := X3.fr 9; rw [HE.out] at b39; have ho4 := join_own hlt ho3; obtain ⟨a3, c3, rfl, hc3, n3⟩ := own_holdsR ho4))
    all_goals
      clear bA9 b29 f29 b39 f39 hif ho2 hg2 ho3 hg3 ho4 b0 b1 b2 b3 b4 b5 b6 b7 b8 b9
      have X4 : LegBox (w3.setCell ⟨w.heap.size, 9, none⟩ (.slice a3 (cutN d k).length c3)) w.heap.size (withH d (cutN d k)) { p with aH := a3, cH := c3 } := X3.set9 (cutN d k) a3 c3
      have R4 : (w3.setCell ⟨w.heap.size, 9, none⟩ (.slice a3 (cutN d k).length c3)).heap[w.heap.size + 1]? = some (.cells #[.string ⟨#[]⟩, .string ⟨#[]⟩, .string ⟨#[]⟩, .int .i64 0, .int .i64 0, .int .i64 0, .slice none 0 0, .slice none 0 0, .slice none 0 0, .slice none 0 0] 25 (0, 0)) := (set_other _ (by omega)).trans ((D23.block _ (lt_heap R1.out)).trans R1.out)
      have gs4 := grown_set w3 ⟨w.heap.size, 9, none⟩ (.slice a3 (cutN d k).length c3)
      have n4 := n3.far gs4 (fun q e => by cases e; left; show w.heap.size < _; omega)
      have D4 := (bt D1.out D23).setCell (p := ⟨w.heap.size, 9, none⟩) (Nat.le_refl _) (.slice a3 (cutN d k).length c3)
      have N4h := Lib.hid n4
      have hl9 : Hid (w.heap.size ≤ w1.heap.size) := Lib.hid D1.out.size
      have hu7 : Hid (w3.heap.size ≤ (w3.setCell ⟨w.heap.size, 9, none⟩ (.slice a3 (cutN d k).length c3)).heap.size) := Lib.hid gs4.size
      have D4h := Lib.hid D4
      have R4h := Lib.hid R4
      clear n3 n4 D4 R4 gs4 X2 X3 D12 D23
      generalize w3.setCell ⟨w.heap.size, 9, none⟩ (.slice a3 (cutN d k).length c3) = W4 at *
      have g0 := X4.c0
      have g1 := X4.c1
      have g2 := X4.c2
      have g3 := X4.c3
      have g4 := X4.c4
      have g5 := X4.c5
      have g6 := X4.c6
      have g7 := X4.c7
      have g8 := X4.c8
      have g9 := X4.c9
      clear X4
      go_wp2_with (first
        | (refine wpList_store_row rfl 25 _ _ rfl (w.heap.size + 1) (LegC (withH d (cutN d k)) { p with aH := a3, cH := c3 }) rfl rfl 25 #[.string ⟨#[]⟩, .string ⟨#[]⟩, .string ⟨#[]⟩, .int .i64 0, .int .i64 0, .int .i64 0, .slice none 0 0, .slice none 0 0, .slice none 0 0, .slice none 0 0] R4h.out legSize rfl (leg_one1 _ _) ?_)
        | fail)
      clear g0 g1 g2 g3 g4 g5 g6 g7 g8 g9
      have hfin : LegBox (W4.setRow (w.heap.size + 1) (LegC (withH d (cutN d k)) { p with aH := a3, cH := c3 })) (w.heap.size + 1) (withH d (cutN d k)) { p with aH := a3, cH := c3 } := setRow_heap W4 (w.heap.size + 1) _ _ _ _ R4h.out
      have gr := grown_setRow W4 (w.heap.size + 1) (LegC (withH d (cutN d k)) { p with aH := a3, cH := c3 })
      have hu8 := gr.size
      have hb6 := D4h.out.grown gr D4h.out.size (fun q e => by cases e; omega)
      have n6 := N4h.out.far gr (fun q e => by cases e; left; omega)
      have HN6 := Lib.hid n6.holds
      have HR6 := Lib.hid n6
      generalize W4.setRow (w.heap.size + 1) (LegC (withH d (cutN d k)) { p with aH := a3, cH := c3 }) = W6 at *
      have y0 := hfin.c0
      have y1 := hfin.c1
      have y2 := hfin.c2
      have y3 := hfin.c3
      have y4 := hfin.c4
      have y5 := hfin.c5
      have y6 := hfin.c6
      have y7 := hfin.c7
      have y8 := hfin.c8
      have y9 := hfin.c9
      clear hfin gr n6
      have hu9 := Lib.hid (Nat.le_trans hu7.out hu8)
      clear hu8
      have hs := cut_same hlt
      have hV : LegV (withH d (cutN d k)) { p with aH := a3, cH := c3 } = LegV (dropD d txn) { p with aH := a3, cH := c3 } := by rw [hdrop.out]; exact LegV.same hs _
      have hI : LegIn W6 (dropD d txn) { p with aH := a3, cH := c3 } := by
        rw [hdrop.out]
        have hin6 := Hin.out.kept hb6
        exact LegIn.same (a := withH d (cutN d k)) ⟨hin6.1, hin6.2.1, hin6.2.2.1, HN6.out⟩ hs
      refine bodyPost_ret (v := LegV (withH d (cutN d k)) { p with aH := a3, cH := c3 }) ?_ rfl ⟨⟨a3, c3, by rw [hV], by rw [hdrop.out]; show d.nH - 1 ≤ c3; rw [cutN_len hlt] at hc3; exact hc3, hI, fun _ => by rw [hdrop.out]; exact (HR6.out.mono hl9.out hu9.out).same hs.nH hs.H⟩, hb6⟩
      rw [LegV_eq]
      unfold LegC
      rw [results_cell1 rfl]
      go_simp
end Go.Proofs.YtdaccpffdnbkiaaGreatDoor

namespace Go.Proofs.YtdaccpffdnbkiaaGreatDoor
open Go.RowKit
set_option linter.unusedVariables false
set_option linter.unusedSimpArgs false

/-- A store into numbers in memory of their own. -/
theorem NumsR.setAt {lo hi : Nat} {w : World} {a : Option Addr} {len : Nat} {z : Nat → Int} (h : NumsR lo hi w a len z) {m : Nat} (hm : m < len) (v : Int) :
    ∃ g, a = some ⟨g, 0, none⟩ ∧ lo ≤ g ∧ g < hi ∧ w.cell? ⟨g, m, none⟩ = some (.int .i64 (z m)) ∧ w.frozen? ⟨g, m, none⟩ = false ∧ NumsR lo hi (w.setCell ⟨g, m, none⟩ (.int .i64 v)) a len (fun i => if i = m then v else z i) := by
  rcases h with h | ⟨g, ha, r1, r2, r3, r4⟩
  · omega
  · have gs := grown_set w ⟨g, m, none⟩ (.int .i64 v)
    refine ⟨g, ha, r1, r2, (r4 m hm).1, (r4 m hm).2, .inr ⟨g, ha, r1, r2, Nat.lt_of_lt_of_le r3 gs.size, fun i hi => ?_⟩⟩
    have r4i := r4 i hi
    refine ⟨?_, by simpa [go_sem] using r4i.2⟩
    by_cases e : i = m
    · subst e; simp [go_sem, r4i.1]
    · simp [go_sem, r4i.1, e]
set_option maxRecDepth 100000 in
set_option maxHeartbeats 8000000 in
theorem keepM (d : LegD) (p : LegP) (txn : Int) (w : World) (hin : LegIn w d p) (ho : OkLeg d) (hcH : d.nH ≤ p.cH) :
    Calls Tryz.prog 56 #[LegV d p, .int .i64 txn] w fun e w' => (∃ p', e = .returned (LegV (keepD d txn) p') ∧ LegIn w' (keepD d txn) p' ∧ (keepD d txn).nH ≤ p'.cH ∧ Moved w (keepD d txn).nH p p') ∧ Below w.heap.size w w' := by
  obtain ⟨i0, hi, hz0, hz1, hz2⟩ := info_parts infoInt
  have hbC : Below w.heap.size w ((w.alloc (.cells (LegC d p) 25)).alloc (.cells #[.string ⟨#[]⟩, .string ⟨#[]⟩, .string ⟨#[]⟩, .int .i64 0, .int .i64 0, .int .i64 0, .slice none 0 0, .slice none 0 0, .slice none 0 0, .slice none 0 0] 25)) := ((Below.refl _ _).alloc (Nat.le_refl _) _).alloc (by simp) _
  have hX : LegBox ((w.alloc (.cells (LegC d p) 25)).alloc (.cells #[.string ⟨#[]⟩, .string ⟨#[]⟩, .string ⟨#[]⟩, .int .i64 0, .int .i64 0, .int .i64 0, .slice none 0 0, .slice none 0 0, .slice none 0 0, .slice none 0 0] 25)) w.heap.size d p := (LegBox.new w d p).kept ((Below.refl _ _).alloc (Nat.le_refl _) _)
  have hR : ((w.alloc (.cells (LegC d p) 25)).alloc (.cells #[.string ⟨#[]⟩, .string ⟨#[]⟩, .string ⟨#[]⟩, .int .i64 0, .int .i64 0, .int .i64 0, .slice none 0 0, .slice none 0 0, .slice none 0 0, .slice none 0 0] 25)).heap[w.heap.size + 1]? = some (.cells #[.string ⟨#[]⟩, .string ⟨#[]⟩, .string ⟨#[]⟩, .int .i64 0, .int .i64 0, .int .i64 0, .slice none 0 0, .slice none 0 0, .slice none 0 0, .slice none 0 0] 25 (0, 0)) := by
    have := heap_alloc_new (w.alloc (.cells (LegC d p) 25)) (.cells #[.string ⟨#[]⟩, .string ⟨#[]⟩, .string ⟨#[]⟩, .int .i64 0, .int .i64 0, .int .i64 0, .slice none 0 0, .slice none 0 0, .slice none 0 0, .slice none 0 0] 25)
    rwa [World.size_alloc] at this
  have Hin := Lib.hid hin
  have D0 := Lib.hid hbC
  have X0 := Lib.hid hX
  have R0 := Lib.hid hR
  have HK := Lib.hid ho
  have HO := Lib.hid ho.2.2.1
  have hn6 := ho.2.2.1.1
  have b0 := hX.c0
  have b1 := hX.c1
  have b2 := hX.c2
  have b3 := hX.c3
  have b4 := hX.c4
  have b5 := hX.c5
  have b6 := hX.c6
  have b7 := hX.c7
  have b8 := hX.c8
  have b9 := hX.c9
  rw [LegV_eq]
  generalize hLC : LegC d p = LC at *
  clear hbC hX hR hin hLC ho
  go_enter Tryz.func56, Tryz.ntmps56
  go_wp2_with fail
  generalize ((w.alloc (.cells LC 25)).alloc (.cells #[.string ⟨#[]⟩, .string ⟨#[]⟩, .string ⟨#[]⟩, .int .i64 0, .int .i64 0, .int .i64 0, .slice none 0 0, .slice none 0 0, .slice none 0 0, .slice none 0 0] 25)) = W0 at *
  refine (heldM d p txn W0 (Hin.out.kept D0.out) (by omega)).mono ?_
  rintro e w1 ⟨⟨k, b, hat, rfl, hb⟩, d1⟩
  have X1 := X0.out.kept d1
  have R1 := Lib.hid ((d1.block _ (lt_heap R0.out)).trans R0.out)
  have D1 := Lib.hid (bt D0.out d1)
  have hl0 := lt_heap R0.out
  have hl1 := d1.size
  have X1h := Lib.hid X1
  have HP := Lib.hid (held_pos HO.out hat)
  have HKle := hat.1
  clear b0 b1 b2 b3 b4 b5 b6 b7 b8 b9 d1 hat
  have b0 := X1.c0
  have b1 := X1.c1
  have b2 := X1.c2
  have b3 := X1.c3
  have b4 := X1.c4
  have b5 := X1.c5
  have b6 := X1.c6
  have b7 := X1.c7
  have b8 := X1.c8
  have b9 := X1.c9
  clear X1
  cases b with
  | false =>
    have hkeep : Hid (keepD d txn = d) := by
      have hno : ¬ (k < d.nH ∧ d.t k = txn) := fun h => by have := hb.out.2 h; cases this
      show _ = _
      unfold keepD
      rw [HP.out.2 hno, if_neg (by omega)]
    clear hb
    go_wp2_with (first
      | (refine wpList_store_row rfl 25 _ _ rfl (w.heap.size + 1) (LegC d p) rfl rfl 25 #[.string ⟨#[]⟩, .string ⟨#[]⟩, .string ⟨#[]⟩, .int .i64 0, .int .i64 0, .int .i64 0, .slice none 0 0, .slice none 0 0, .slice none 0 0, .slice none 0 0] R1.out legSize rfl (leg_one1 d p) ?_)
      | fail)
    have hfin : LegBox (w1.setRow (w.heap.size + 1) (LegC d p)) (w.heap.size + 1) d p := setRow_heap w1 (w.heap.size + 1) _ _ _ _ R1.out
    have gr := grown_setRow w1 (w.heap.size + 1) (LegC d p)
    have hb2 := Lib.hid (D1.out.grown gr D1.out.size (fun q e => by cases e; omega))
    clear b0 b1 b2 b3 b4 b5 b6 b7 b8 b9
    generalize w1.setRow (w.heap.size + 1) (LegC d p) = W2 at *
    have y0 := hfin.c0
    have y1 := hfin.c1
    have y2 := hfin.c2
    have y3 := hfin.c3
    have y4 := hfin.c4
    have y5 := hfin.c5
    have y6 := hfin.c6
    have y7 := hfin.c7
    have y8 := hfin.c8
    have y9 := hfin.c9
    clear hfin gr
    refine bodyPost_ret (v := LegV d p) ?_ rfl ⟨⟨p, by rw [hkeep.out], by rw [hkeep.out]; exact Hin.out.kept hb2.out, by rw [hkeep.out]; exact hcH, Moved.same _ _ _⟩, hb2.out⟩
    rw [LegV_eq]
    unfold LegC
    rw [results_cell1 rfl]
    go_simp
  | true =>
    have hyes := hb.out.1 rfl
    have hlt := hyes.1
    have hpos := Lib.hid (HP.out.1 hyes)
    have hdrop : Hid (dropD d txn = delH d k) := by
      show _ = _
      unfold dropD
      rw [hpos.out, if_pos hlt]
    clear hb hyes
    obtain ⟨m, hm3, hym, hz0', hz9⟩ : ∃ m : Nat, m < 3 ∧ d.c k = m ∧ -9 ≤ d.s k ∧ d.s k ≤ 9 := by
      have q := (HK.out.2.2.1.2 _ hlt).1
      have q2 := q.2.1
      have q3 := q.2.2.1
      have q4 := HK.out.2.1.1
      exact ⟨(d.c k).toNat, by omega, by omega, by omega, by omega⟩
    obtain ⟨bH, oH, eH, hbH, hcell⟩ := Hin.out.2.2.2.cells (by omega)
    obtain ⟨bS, oS, eS, hbS, hcS⟩ := Hin.out.2.1.cells (by have := HK.out.2.1.2.2.1; omega)
    rw [eH] at b9
    have ck0 := cell_kept D1.out hbH (hcell k hlt).1
    have ck1 := cell_kept D1.out hbH (hcell k hlt).2.1
    have ck2 := cell_kept D1.out hbH (hcell k hlt).2.2
    rw [hym] at ck1
    have KS : Hid (∀ W, Below w.heap.size w W → ∀ i, i < 3 → W.cell? ⟨bS, oS + i, none⟩ = some (.int .i64 (d.S i))) := fun W hb i hi => cell_kept hb hbS (hcS i (by have := HK.out.2.1.2.2.1; omega))
    have HE := Lib.hid eH
    have HES := Lib.hid eS
    have HY := Lib.hid hym
    have hSm := HK.out.2.1.sold.2 m hm3
    have hwz : IntKind.i64.wrap (d.S m + d.s k) = d.S m + d.s k := IntWalk.i64_in _ (by omega)
    have k1 : (k : Int) < d.nH := by omega
    have k0 : (0 : Int) ≤ k := by omega
    have m1 : (m : Int) < 3 := by omega
    have m0 : (0 : Int) ≤ m := by omega
    have hb2 := holdBelow w1 (d.t k) (m : Int) (d.s k)
    have X2 := X1h.out.kept hb2
    have R2 := Lib.hid ((hb2.block _ (lt_heap R1.out)).trans R1.out)
    have Q2 := holdBox w1 (d.t k) (m : Int) (d.s k)
    have D2 := Lib.hid (bt D1.out hb2)
    have s2 := Lib.hid (lt_heap Q2)
    have Q2h := Lib.hid Q2
    have X2h := Lib.hid X2
    have c0 := X2.c0
    have c1 := X2.c1
    have c2 := X2.c2
    have c3 := X2.c3
    have c4 := X2.c4
    have c5 := X2.c5
    have c6 := X2.c6
    have c7 := X2.c7
    have c8 := X2.c8
    have c9 := X2.c9
    clear hym eH eS hcell hcS hb2 Q2 X2
    go_wp2_with (first
      | (refine wpList_store_row rfl 58 _ _ rfl w1.heap.size #[.int .i64 (d.t k), .int .i64 (m : Int), .int .i64 (d.s k)] rfl rfl 58 #[.int .i64 0, .int .i64 0, .int .i64 0] (heap_alloc_new w1 _) holdSize rfl (hold_one _ _ _) ?_)
      | fail)
    clear c0 c1 c2 c3 c4 c5 c6 c7 c8 c9 b0 b1 b2 b3 b4 b5 b6 b7 b8 b9 ck0 ck1 ck2
    generalize ((w1.alloc (.cells #[.int .i64 0, .int .i64 0, .int .i64 0] 58)).setRow w1.heap.size #[.int .i64 (d.t k), .int .i64 (m : Int), .int .i64 (d.s k)]) = W2 at *
    have hcall := dropN d p txn W2 (Hin.out.kept D2.out) HO.out hcH
    rw [hdrop.out] at hcall
    refine hcall.mono ?_
    clear hcall
    rintro e w3 ⟨⟨a, c, rfl, hac, hin3, hown⟩, d3⟩
    have H3 := Lib.hid (hown (by rw [hpos.out]; exact hlt))
    have HAC := Lib.hid hac
    have HNA := Lib.hid (H3.out.newAt (w := w) D2.out.size)
    have X3h := Lib.hid (X2h.out.kept d3)
    have R3 := (d3.block _ (lt_heap R2.out)).trans R2.out
    have Q3 := (d3.block _ (lt_heap Q2h.out)).trans Q2h.out
    have D3 := bt D2.out d3
    have s3 := d3.size
    have s2' := s2.out
    have gr4 := grown_setRow w3 w.heap.size (LegC (delH d k) { p with aH := a, cH := c })
    have X4 : LegBox (w3.setRow w.heap.size (LegC (delH d k) { p with aH := a, cH := c })) w.heap.size (delH d k) { p with aH := a, cH := c } := setRow_heap w3 w.heap.size _ _ _ _ X3h.out
    have R4 := Lib.hid ((setRow_other w3 w.heap.size (w.heap.size + 1) (LegC (delH d k) { p with aH := a, cH := c }) (by omega)).trans R3)
    have Q4 := Lib.hid ((setRow_other w3 w.heap.size w1.heap.size (LegC (delH d k) { p with aH := a, cH := c }) (by omega)).trans Q3)
    have D4 := Lib.hid (D3.grown gr4 D3.size (fun q e => by cases e; omega))
    have H4 := Lib.hid (H3.out.far gr4 (fun q e => by cases e; left; omega))
    have s4 := gr4.size
    have e7 := (X4.kept ((Below.refl _ _).alloc (Nat.le_refl _) (.cells #[] 3))).c7
    have e7s : (Value.slice ({ p with aH := a, cH := c } : LegP).aS (delH d k).nS ({ p with aH := a, cH := c } : LegP).cS) = .slice (some ⟨bS, oS, none⟩) 3 p.cS := by
      show Value.slice p.aS d.nS p.cS = _
      rw [HES.out, HK.out.2.1.2.2.1]
    have e7' := e7.trans (congrArg some e7s)
    have X4h := Lib.hid X4
    clear X4 R3 Q3 D3 gr4 H3 hown hin3 d3 e7 e7s
    have hN4 : (w3.setRow w.heap.size (LegC (delH d k) { p with aH := a, cH := c })).heap.size = w3.heap.size := by simp
    have HN4 := Lib.hid hN4
    have s4' : w1.heap.size < w3.heap.size := by omega
    clear hN4
    go_wp2_with (first
      | (refine wpList_store_row rfl 25 _ _ rfl w.heap.size (LegC (delH d k) { p with aH := a, cH := c }) rfl rfl 25 (LegC d p) X3h.out legSize rfl (leg_one1 _ _) ?_)
      | (at_builtin; refine wpList_append_own _ rfl _ _ 22 rfl w3.heap.size 3 i0 (.int .i64 0) 1 8 Tryz.underlying22 hi hz0 hz1 hz2 rfl (by decide) (.slice (some ⟨w3.heap.size, 0, none⟩) 0 0) 0 [] rfl (own0 (w3.setRow w.heap.size (LegC (delH d k) { p with aH := a, cH := c })) _ HN4.out _ _) ⟨bS, oS, none⟩ 3 p.cS (newsI d.S 3) rfl (newsI_len _ _) ?_ (newsI_one _ _) ?_ ?_ ?_ ?_; exact newsI_cells (KS.out _ (D4.out.alloc D4.out.size _)); (unfold maxLen; omega); omega; (have q := HN4.out; simp only [World.size_alloc] at q ⊢; omega); intro v5 w5 ho5 hg5 _; obtain ⟨a5, c5, rfl, hc5, n5, d5⟩ := app_nums HN4.out ho5 hg5; obtain ⟨g5, hag, hBg, hgT, -, -, -⟩ := n5.setAt hm3 0; have HAG := Lib.hid hag; subst hag; have X5 := X4h.out.kept d5; have x5c := X5.c7; have x5f := X5.fr 7; have R5 := (d5.block _ (lt_heap R4.out)).trans R4.out; have Q5 := (d5.block _ (lt_heap Q4.out)).trans Q4.out; have D5 := bt D4.out d5; have H5 := H4.out.kept d5; have N5 := Lib.hid n5; have X5h := Lib.hid X5; have R5h := Lib.hid R5; have Q5h := Lib.hid Q5; have D5h := Lib.hid D5; have H5h := Lib.hid H5; have s5 := Lib.hid d5.size; clear X5 R5 Q5 D5 H5 n5 d5 ho5 hg5)
      | fail)
    clear HAG x5c x5f
    have hnS : (delH d k).nS = 3 := HK.out.2.1.2.2.1
    have X6 : LegBox (w5.setCell ⟨w.heap.size, 7, none⟩ (.slice (some ⟨g5, 0, none⟩) 3 c5)) w.heap.size (delH d k) { p with aH := a, cH := c, aS := some ⟨g5, 0, none⟩, cS := c5 } := by
      have := X5h.out.set7 (some ⟨g5, 0, none⟩) c5
      rwa [hnS] at this
    have gs6 := grown_set w5 ⟨w.heap.size, 7, none⟩ (.slice (some ⟨g5, 0, none⟩) 3 c5)
    have R6 := (set_other (Value.slice (some ⟨g5, 0, none⟩) 3 c5) (show w.heap.size + 1 ≠ w.heap.size by omega) (i := 7)).trans R5h.out
    have Q6 := (set_other (Value.slice (some ⟨g5, 0, none⟩) 3 c5) (show w1.heap.size ≠ w.heap.size by omega) (i := 7)).trans Q5h.out
    have D6 := D5h.out.setCell (p := ⟨w.heap.size, 7, none⟩) (Nat.le_refl _) (.slice (some ⟨g5, 0, none⟩) 3 c5)
    have H6 := H5h.out.far gs6 (fun q e => by cases e; left; show w.heap.size < _; omega)
    have N6 := N5.out.far gs6 (fun q e => by cases e; left; show w.heap.size < _; omega)
    clear gs6 X5h R5h Q5h D5h H5h N5 X4h R4 Q4 D4 H4 e7' X3h X2h R2 Q2h X1h
    have e6 := X6.c7.trans (congrArg some (show Value.slice (some ⟨g5, 0, none⟩) (delH d k).nS c5 = .slice (some ⟨g5, 0, none⟩) 3 c5 by rw [hnS]))
    obtain ⟨u0, u1, u2⟩ := row3 Q6
    have hlo : w3.heap.size ≤ g5 := by omega
    clear hnS hBg HN4 s5
    generalize (w5.setCell ⟨w.heap.size, 7, none⟩ (.slice (some ⟨g5, 0, none⟩) 3 c5)) = W6 at *
    obtain ⟨g', hag', hB', hT', cS, fS, N7⟩ := N6.setAt hm3 (d.S m + d.s k)
    have hgg := (Addr.mk.inj (Option.some.inj hag')).1
    subst hgg
    have X7h : Hid (LegBox ((W6.setCell ⟨g5, m, none⟩ (.int .i64 (d.S m + d.s k))).drew) w.heap.size (delH d k) { p with aH := a, cH := c, aS := some ⟨g5, 0, none⟩, cS := c5 }) := ((set_other _ (by omega)).trans X6 : (W6.setCell ⟨g5, m, none⟩ (.int .i64 (d.S m + d.s k))).heap[w.heap.size]? = _)
    have R7h : Hid (((W6.setCell ⟨g5, m, none⟩ (.int .i64 (d.S m + d.s k))).drew).heap[w.heap.size + 1]? = some (.cells #[.string ⟨#[]⟩, .string ⟨#[]⟩, .string ⟨#[]⟩, .int .i64 0, .int .i64 0, .int .i64 0, .slice none 0 0, .slice none 0 0, .slice none 0 0, .slice none 0 0] 25 (0, 0))) := ((set_other _ (by omega)).trans R6 : (W6.setCell ⟨g5, m, none⟩ (.int .i64 (d.S m + d.s k))).heap[w.heap.size + 1]? = _)
    have D7 := Lib.hid ((D6.setCell (p := ⟨g5, m, none⟩) (by show w.heap.size ≤ g5; omega) (.int .i64 (d.S m + d.s k))).drew)
    have H7 := Lib.hid ((H6.far (grown_set W6 ⟨g5, m, none⟩ (.int .i64 (d.S m + d.s k))) (fun q e => by cases e; right; show _ ≤ g5; omega)).kept (Below.refl _ _).drew)
    have N7h := Lib.hid (N7.kept (Below.refl _ _).drew)
    clear X6 R6 Q6 D6 H6 N6 N7 hag' hB' hT'
    try go_frame
    go_region
    all_goals
      have X7 := X7h.out
      clear cS fS e6 u0 u1 u2
      have r0 := X7.c0
      have r1 := X7.c1
      have r2 := X7.c2
      have r3 := X7.c3
      have r4 := X7.c4
      have r5 := X7.c5
      have r6 := X7.c6
      have r7 := X7.c7
      have r8 := X7.c8
      have r9 := X7.c9
      clear X7
      generalize ((W6.setCell ⟨g5, m, none⟩ (.int .i64 (d.S m + d.s k))).drew) = W7 at *
      go_wp2_with (first
        | (refine wpList_store_row rfl 25 _ _ rfl (w.heap.size + 1) (LegC (delH d k) { p with aH := a, cH := c, aS := some ⟨g5, 0, none⟩, cS := c5 }) rfl rfl 25 #[.string ⟨#[]⟩, .string ⟨#[]⟩, .string ⟨#[]⟩, .int .i64 0, .int .i64 0, .int .i64 0, .slice none 0 0, .slice none 0 0, .slice none 0 0, .slice none 0 0] R7h.out legSize rfl (leg_one1 _ _) ?_)
        | fail)
      clear r0 r1 r2 r3 r4 r5 r6 r7 r8 r9
      have hfin : LegBox (W7.setRow (w.heap.size + 1) (LegC (delH d k) { p with aH := a, cH := c, aS := some ⟨g5, 0, none⟩, cS := c5 })) (w.heap.size + 1) (delH d k) { p with aH := a, cH := c, aS := some ⟨g5, 0, none⟩, cS := c5 } := setRow_heap W7 (w.heap.size + 1) _ _ _ _ R7h.out
      have gr := grown_setRow W7 (w.heap.size + 1) (LegC (delH d k) { p with aH := a, cH := c, aS := some ⟨g5, 0, none⟩, cS := c5 })
      have hb8 := Lib.hid (D7.out.grown gr D7.out.size (fun q e => by cases e; omega))
      have H8 := Lib.hid (H7.out.far gr (fun q e => by cases e; left; omega)).holds
      have N8 := Lib.hid (N7h.out.far gr (fun q e => by cases e; left; omega)).nums
      generalize W7.setRow (w.heap.size + 1) (LegC (delH d k) { p with aH := a, cH := c, aS := some ⟨g5, 0, none⟩, cS := c5 }) = W8 at *
      have y0 := hfin.c0
      have y1 := hfin.c1
      have y2 := hfin.c2
      have y3 := hfin.c3
      have y4 := hfin.c4
      have y5 := hfin.c5
      have y6 := hfin.c6
      have y7 := hfin.c7
      have y8 := hfin.c8
      have y9 := hfin.c9
      clear hfin gr
      have hks : LegSame { (delH d k) with S := fun i => if i = m then (delH d k).S m + d.s k else (delH d k).S i } (keepD d txn) := keep_same (m := m) (y := d.c k) (z := d.s k) (D := (delH d k)) (by rw [hdrop.out]; exact LegSame.refl _) HY.out (.inl ⟨by rw [hpos.out]; exact hlt, by rw [hpos.out], by rw [hpos.out]⟩)
      have hV : LegV (delH d k) { p with aH := a, cH := c, aS := some ⟨g5, 0, none⟩, cS := c5 } = LegV (keepD d txn) { p with aH := a, cH := c, aS := some ⟨g5, 0, none⟩, cS := c5 } := LegV.same hks { p with aH := a, cH := c, aS := some ⟨g5, 0, none⟩, cS := c5 }
      have HMV : Hid (Moved w (keepD d txn).nH p { p with aH := a, cH := c, aS := some ⟨g5, 0, none⟩, cS := c5 }) := ⟨rfl, rfl, .inr (fun x hx => by cases hx; show w.heap.size ≤ g5; omega), by rw [← hks.nH]; exact .inr HNA.out⟩
      have hI : LegIn W8 (keepD d txn) { p with aH := a, cH := c, aS := some ⟨g5, 0, none⟩, cS := c5 } := LegIn.same (a := { (delH d k) with S := fun i => if i = m then (delH d k).S m + d.s k else (delH d k).S i }) ⟨(Hin.out.kept hb8.out).1, N8.out.same HK.out.2.1.2.2.1.symm (fun _ _ => rfl), (Hin.out.kept hb8.out).2.2.1, H8.out⟩ hks
      refine bodyPost_ret (v := LegV (delH d k) { p with aH := a, cH := c, aS := some ⟨g5, 0, none⟩, cS := c5 }) ?_ rfl ⟨⟨{ p with aH := a, cH := c, aS := some ⟨g5, 0, none⟩, cS := c5 }, by rw [hV], hI, by rw [← hks.nH]; exact HAC.out, HMV.out⟩, hb8.out⟩
      rw [LegV_eq]
      unfold LegC
      rw [results_cell1 rfl]
      go_simp
      all_goals exact hV
end Go.Proofs.YtdaccpffdnbkiaaGreatDoor
