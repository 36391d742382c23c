/-
  What is held for a transaction is let go: the model's.
-/
import Derived.Test.YtmlkjlipjkmcfaaLegHeldM
import Derived.Test.YtmlkjlipjkmcfaaLegCopyM
import Derived.Deep.RegionLaw
namespace Go.Proofs.Ytmlkjlipjkmcfaa
open Go.RowKit
set_option linter.unusedVariables false
set_option linter.unusedSimpArgs false

theorem own0d (W : World) (e : TypeId) (size : Nat) : ((W.alloc (.cells #[] e)).drew).ownsRow W.heap.size e size (.slice (some ⟨W.heap.size, 0, none⟩) 0 0) 0 [] := own0 W _ rfl e size
theorem step_append_any {P : Program} {ops : Array Oper} {o : Oper} {a : Act} {w : World} {K : Act → World → Prop} {Q : Exit → Act → World → Prop} {E : Prop} (hgd : o.guard = none) (s x : Operand) (t : TypeId)
    (ho : o.op = .call { callee := .builtin .append, args := #[s, x], argTypes := #[t, t] })
    (base : Nat) (e : TypeId) (i : TypeInfo) (z : Value) (size bytes : Nat) (ht : P.underlying t = some (.slice e)) (hi : P.info? e = some i) (hz : i.zero = some z)
    (hsize : i.size = size) (hby : i.bytes = bytes) (hzs : z.cells.size = size) (hsz : 0 < size)
    (v : Value) (n : Nat) (xs : List Value) (hs : a.eval s = v) (hown : w.ownsRow base e size v n xs)
    (ad : Addr) (m c : Nat) (news : List Value) (hx : a.eval x = .slice (some ad) m c) (hl : news.length = m * size) (hnews : ∀ j u, news[j]? = some u → w.cell? (ad.add j) = some u) (h1 : ∀ u ∈ news, u.oneCell' = true)
    (h63 : n + m ≤ maxLen) (hbytes : (n + m) * bytes ≤ 140737488355328) (hbase : base ≤ w.heap.size)
    (h : ∀ v' w', w'.ownsRow base e size v' (n + m) (xs ++ news) → w.grownBy w' v.ownBlock → K (a.put o.dst v') w') :
    if Region.wanted o (yielded ops a.tmps) = true then Oper.wp P o a w K Q else E := by
  rw [if_pos (by simp [Region.wanted, hgd])]
  obtain ⟨v', w', hr, h2, h3, -⟩ := run_append_own (P := P) w base t o.type e i z size bytes ht hi hz hsize hby hzs hsz v n xs hown ad m c news hl hnews h1 h63 hbytes hbase
  unfold Oper.wp execOp
  simp only [ho, resolve, invoke, builtin, Sem.run_bind, Sem.run_pure, Result.andThen_ok, List.map_toArray, List.map_cons, List.map_nil, hs, hx, hr]
  exact h v' w' h2 h3
/-- What is held, but for the k-th, as two rows. -/
theorem flatN_app (L M : List Nd) : flatN (L ++ M) = flatN L ++ flatN M := by simp [flatN]
def cutN (d : LegD) (k : Nat) : List Nd := ndsOf d.t d.c d.s k ++ ndsOf (fun i => d.t (k + 1 + i)) (fun i => d.c (k + 1 + i)) (fun i => d.s (k + 1 + i)) (d.nH - (k + 1))
theorem cutN_len {d : LegD} {k : Nat} (hk : k < d.nH) : (cutN d k).length = d.nH - 1 := by simp only [cutN, List.length_append, ndsOf_len]; omega
theorem cutN_at {d : LegD} {k i : Nat} (hk : k < d.nH) (hi : i < d.nH - 1) : tN (cutN d k) i = d.t (sk k i) ∧ cN (cutN d k) i = d.c (sk k i) ∧ sN (cutN d k) i = d.s (sk k i) := by
  have hl : i < (cutN d k).length := by rw [cutN_len hk]; exact hi
  have e := List.getElem?_eq_getElem hl
  have ev : tN (cutN d k) i = (cutN d k)[i].t ∧ cN (cutN d k) i = (cutN d k)[i].c ∧ sN (cutN d k) i = (cutN d k)[i].s := by
    simp [tN, cN, sN, List.getD_eq_getElem?_getD, List.getElem?_map, e]
  rw [ev.1, ev.2.1, ev.2.2]
  have e2 : (cutN d k)[i]? = some ⟨0, d.t (sk k i), d.c (sk k i), d.s (sk k i)⟩ := by
    unfold cutN sk
    rcases Nat.lt_or_ge i k with h | h
    · rw [List.getElem?_append_left (by rw [ndsOf_len]; exact h), if_pos h]; simp [ndsOf, h]
    · rw [List.getElem?_append_right (by rw [ndsOf_len]; exact h), if_neg (by omega), ndsOf_len]
      have h2 : i - k < d.nH - (k + 1) := by omega
      have h3 : k + 1 + (i - k) = i + 1 := by omega
      simp [ndsOf, h2, h3]
  have e3 := Option.some.inj (e.symm.trans e2)
  rw [e3]
  exact ⟨rfl, rfl, rfl⟩

theorem join_own {w : World} {N k : Nat} {v : Value} {d : LegD} (hk : k < d.nH)
    (h : w.ownsRow N 35 3 v (0 + k + (d.nH - (k + 1))) ([] ++ flatN (ndsOf d.t d.c d.s k) ++ flatN (ndsOf (fun i => d.t (k + 1 + i)) (fun i => d.c (k + 1 + i)) (fun i => d.s (k + 1 + i)) (d.nH - (k + 1))))) :
    w.ownsRow N 35 3 v (cutN d k).length (flatN (cutN d k)) := by
  rw [cutN_len hk, show d.nH - 1 = 0 + k + (d.nH - (k + 1)) from by omega]
  unfold cutN
  rw [flatN_app]
  exact h
theorem cut_same {d : LegD} {k : Nat} (hk : k < d.nH) : LegSame (withH d (cutN d k)) (delH d k) :=
  ⟨rfl, rfl, rfl, rfl, rfl, rfl, rfl, rfl, rfl, cutN_len hk, fun _ _ => rfl, fun _ _ => rfl, fun _ _ => rfl, fun i hi => cutN_at hk (by have : i < (cutN d k).length := hi; rw [cutN_len hk] at this; exact this)⟩
set_option maxRecDepth 100000 in
set_option maxHeartbeats 8000000 in
theorem dropM (d : LegD) (p : LegP) (txn : Int) (w : World) (hin : LegIn w d p) (ho : HoldsOk d) (hcH : d.nH ≤ p.cH) :
    Calls Try.prog 70 #[LegV d p, .int .i64 txn] w fun e w' => (∃ a c, e = .returned (LegV (dropD d txn) { p with aH := a, cH := c }) ∧ (dropD d txn).nH ≤ c ∧ LegIn w' (dropD d txn) { p with aH := a, cH := c }) ∧ Below w.heap.size w w' := by
  obtain ⟨j0, ji, jz0, jz1, jz2⟩ := info_parts infoHold
  have hbC : Below w.heap.size w ((w.alloc (.cells (LegC d p) 31)).alloc (.cells #[.string ⟨#[]⟩, .string ⟨#[]⟩, .string ⟨#[]⟩, .int .i64 0, .int .i64 0, .int .i64 0, .slice none 0 0, .slice none 0 0, .slice none 0 0, .slice none 0 0] 31)) := ((Below.refl _ _).alloc (Nat.le_refl _) _).alloc (by simp) _
  have hX : LegBox ((w.alloc (.cells (LegC d p) 31)).alloc (.cells #[.string ⟨#[]⟩, .string ⟨#[]⟩, .string ⟨#[]⟩, .int .i64 0, .int .i64 0, .int .i64 0, .slice none 0 0, .slice none 0 0, .slice none 0 0, .slice none 0 0] 31)) w.heap.size d p := (LegBox.new w d p).kept ((Below.refl _ _).alloc (Nat.le_refl _) _)
  have hR : ((w.alloc (.cells (LegC d p) 31)).alloc (.cells #[.string ⟨#[]⟩, .string ⟨#[]⟩, .string ⟨#[]⟩, .int .i64 0, .int .i64 0, .int .i64 0, .slice none 0 0, .slice none 0 0, .slice none 0 0, .slice none 0 0] 31)).heap[w.heap.size + 1]? = some (.cells #[.string ⟨#[]⟩, .string ⟨#[]⟩, .string ⟨#[]⟩, .int .i64 0, .int .i64 0, .int .i64 0, .slice none 0 0, .slice none 0 0, .slice none 0 0, .slice none 0 0] 31 (0, 0)) := by
    have := heap_alloc_new (w.alloc (.cells (LegC d p) 31)) (.cells #[.string ⟨#[]⟩, .string ⟨#[]⟩, .string ⟨#[]⟩, .int .i64 0, .int .i64 0, .int .i64 0, .slice none 0 0, .slice none 0 0, .slice none 0 0, .slice none 0 0] 31)
    rwa [World.size_alloc] at this
  have Hin := Lib.hid hin
  have D0 := Lib.hid hbC
  have X0 := Lib.hid hX
  have R0 := Lib.hid hR
  have HO := Lib.hid ho
  have hn6 := ho.1
  have b0 := hX.c0
  have b1 := hX.c1
  have b2 := hX.c2
  have b3 := hX.c3
  have b4 := hX.c4
  have b5 := hX.c5
  have b6 := hX.c6
  have b7 := hX.c7
  have b8 := hX.c8
  have b9 := hX.c9
  rw [LegV_eq]
  generalize hLC : LegC d p = LC at *
  clear hbC hX hR hin hLC ho
  go_enter Try.func70, Try.ntmps70
  go_wp2_with fail
  generalize ((w.alloc (.cells LC 31)).alloc (.cells #[.string ⟨#[]⟩, .string ⟨#[]⟩, .string ⟨#[]⟩, .int .i64 0, .int .i64 0, .int .i64 0, .slice none 0 0, .slice none 0 0, .slice none 0 0, .slice none 0 0] 31)) = W0 at *
  refine (heldM d p txn W0 (Hin.out.kept D0.out) (by omega)).mono ?_
  rintro e w1 ⟨⟨k, b, hat, rfl, hb⟩, d1⟩
  have X1 := X0.out.kept d1
  have R1 := Lib.hid ((d1.block _ (lt_heap R0.out)).trans R0.out)
  have D1 := Lib.hid (bt D0.out d1)
  have hl0 := lt_heap R0.out
  have hl1 := d1.size
  have X1h := Lib.hid X1
  have HP := Lib.hid (held_pos HO.out hat)
  have HKle := hat.1
  clear b0 b1 b2 b3 b4 b5 b6 b7 b8 b9 d1 hat
  have b0 := X1.c0
  have b1 := X1.c1
  have b2 := X1.c2
  have b3 := X1.c3
  have b4 := X1.c4
  have b5 := X1.c5
  have b6 := X1.c6
  have b7 := X1.c7
  have b8 := X1.c8
  have b9 := X1.c9
  clear X1
  cases b with
  | false =>
    have hdrop : Hid (dropD d txn = d) := by
      have hno : ¬ (k < d.nH ∧ d.t k = txn) := fun h => by have := hb.out.2 h; cases this
      show _ = _
      unfold dropD
      rw [HP.out.2 hno, if_neg (by omega)]
    clear hb
    go_wp2_with (first
      | (refine wpList_store_row rfl 31 _ _ rfl (w.heap.size + 1) (LegC d p) rfl rfl 31 #[.string ⟨#[]⟩, .string ⟨#[]⟩, .string ⟨#[]⟩, .int .i64 0, .int .i64 0, .int .i64 0, .slice none 0 0, .slice none 0 0, .slice none 0 0, .slice none 0 0] R1.out legSize rfl (leg_one1 d p) ?_)
      | fail)
    have hfin : LegBox (w1.setRow (w.heap.size + 1) (LegC d p)) (w.heap.size + 1) d p := setRow_heap w1 (w.heap.size + 1) _ _ _ _ R1.out
    have gr := grown_setRow w1 (w.heap.size + 1) (LegC d p)
    have hb2 := Lib.hid (D1.out.grown gr D1.out.size (fun q e => by cases e; omega))
    clear b0 b1 b2 b3 b4 b5 b6 b7 b8 b9
    generalize w1.setRow (w.heap.size + 1) (LegC d p) = W2 at *
    have y0 := hfin.c0
    have y1 := hfin.c1
    have y2 := hfin.c2
    have y3 := hfin.c3
    have y4 := hfin.c4
    have y5 := hfin.c5
    have y6 := hfin.c6
    have y7 := hfin.c7
    have y8 := hfin.c8
    have y9 := hfin.c9
    clear hfin gr
    refine bodyPost_ret (v := LegV d p) ?_ rfl ⟨⟨p.aH, p.cH, by rw [hdrop.out], by rw [hdrop.out]; exact hcH, by rw [hdrop.out]; exact Hin.out.kept hb2.out⟩, hb2.out⟩
    rw [LegV_eq]
    unfold LegC
    rw [results_cell1 rfl]
    go_simp
  | true =>
    have hyes := hb.out.1 rfl
    have hlt := hyes.1
    have hdrop : Hid (dropD d txn = delH d k) := by
      show _ = _
      unfold dropD
      rw [HP.out.1 hyes, if_pos hlt]
    clear hb hyes
    obtain ⟨bH, oH, eH, hbH, hcell⟩ := Hin.out.2.2.2.cells (by omega)
    rw [eH] at b9
    have HE := Lib.hid eH
    have K1 : Hid (∀ W, Below w.heap.size w W → ∀ i, i < k → W.cell? ⟨bH, oH + i * 3, none⟩ = some (.int .i64 (d.t i)) ∧ W.cell? ⟨bH, oH + i * 3 + 1, none⟩ = some (.int .i64 (d.c i)) ∧ W.cell? ⟨bH, oH + i * 3 + 2, none⟩ = some (.int .i64 (d.s i))) := fun W hb i hi => ⟨cell_kept hb hbH (hcell i (by omega)).1, cell_kept hb hbH (hcell i (by omega)).2.1, cell_kept hb hbH (hcell i (by omega)).2.2⟩
    obtain ⟨o2, hif, hk2⟩ : ∃ o2, (if p.cH = k + 1 then some (⟨bH, oH, none⟩ : Addr) else some ⟨bH, oH + (k + 1) * 3, none⟩) = some ⟨bH, o2, none⟩ ∧ ∀ W, Below w.heap.size w W → ∀ i, i < d.nH - (k + 1) → W.cell? ⟨bH, o2 + i * 3, none⟩ = some (.int .i64 (d.t (k + 1 + i))) ∧ W.cell? ⟨bH, o2 + i * 3 + 1, none⟩ = some (.int .i64 (d.c (k + 1 + i))) ∧ W.cell? ⟨bH, o2 + i * 3 + 2, none⟩ = some (.int .i64 (d.s (k + 1 + i))) := by
      by_cases hc : p.cH = k + 1
      · exact ⟨oH, if_pos hc, fun W hb i hi => by omega⟩
      · refine ⟨oH + (k + 1) * 3, if_neg hc, fun W hb i hi => ?_⟩
        have := hcell (k + 1 + i) (by omega)
        rw [show oH + (k + 1 + i) * 3 = oH + (k + 1) * 3 + i * 3 from by omega] at this
        exact ⟨cell_kept hb hbH this.1, cell_kept hb hbH this.2.1, cell_kept hb hbH this.2.2⟩
    have K2 := Lib.hid hk2
    clear hk2
    have k1 : (k : Int) < d.nH := by omega
    have k0 : (0 : Int) ≤ k := by omega
    have k2 : (k : Int) ≤ d.nH := by omega
    have k3 : (k : Int) + 1 ≤ d.nH := by omega
    have k4 : (0 : Int) ≤ (k : Int) + 1 := by omega
    have kc : (k : Int) ≤ p.cH := by omega
    have kc2 : (d.nH : Int) ≤ p.cH := by omega
    have kw : IntKind.i64.wrap ((k : Int) + 1) = (k : Int) + 1 := IntWalk.i64_in _ (by omega)
    have bA9 := (X1h.out.kept ((Below.refl _ _).alloc (Nat.le_refl _) (.cells #[] 35))).c9
    rw [eH] at bA9
    clear hcell eH
    go_wp2_with fail
    go_region_law (first
      | (refine step_append_any rfl _ _ 29 rfl w1.heap.size 35 j0 (.agg #[.int .i64 0, .int .i64 0, .int .i64 0]) 3 24 Try.underlying29 ji jz0 jz1 jz2 rfl (by decide) (.slice (some ⟨w1.heap.size, 0, none⟩) 0 0) 0 [] rfl (own0d w1 _ _) ⟨bH, oH, none⟩ k p.cH (flatN (ndsOf d.t d.c d.s k)) rfl ?_ ?_ (flatN_one _) ?_ ?_ ?_ ?_; rw [flatN_len, ndsOf_len]; exact newsH_cells (K1.out _ ((D1.out.alloc D1.out.size _).drew)); (unfold maxLen; omega); omega; (show w1.heap.size ≤ (w1.alloc _).heap.size; simp); intro v2 w2 ho2 hg2; have D12 : Below w1.heap.size w1 w2 := (((Below.refl _ w1).alloc (Nat.le_refl _) _).drew).grown hg2 (by show w1.heap.size ≤ (w1.alloc _).heap.size; simp) (fun q e => by cases e; exact Nat.le_refl _); have X2 := X1h.out.kept D12; have b29 := X2.c9; have f29 := X2.fr 9; rw [HE.out] at b29)
      | (refine step_append_any rfl _ _ 29 rfl w1.heap.size 35 j0 (.agg #[.int .i64 0, .int .i64 0, .int .i64 0]) 3 24 Try.underlying29 ji jz0 jz1 jz2 rfl (by decide) v2 (0 + k) _ rfl ho2 ⟨bH, o2, none⟩ (d.nH - (k + 1)) (p.cH - (k + 1)) (flatN (ndsOf (fun i => d.t (k + 1 + i)) (fun i => d.c (k + 1 + i)) (fun i => d.s (k + 1 + i)) (d.nH - (k + 1)))) rfl ?_ ?_ (flatN_one _) ?_ ?_ ?_ ?_; rw [flatN_len, ndsOf_len]; exact newsH_cells (K2.out _ (bt D1.out D12)); (unfold maxLen; omega); omega; exact D12.size; intro v3 w3 ho3 hg3; have D23 : Below w1.heap.size w1 w3 := D12.grown hg3 D12.size (fun q e => (ho2.lt q e).1); have X3 := X1h.out.kept D23; have b39 := X3.c9; have f39 := X3.fr 9; rw [HE.out] at b39; have ho4 := join_own hlt ho3; obtain ⟨a3, c3, rfl, hc3, n3⟩ := own_holdsR ho4))
    all_goals
      clear bA9 b29 f29 b39 f39 hif ho2 hg2 ho3 hg3 ho4 b0 b1 b2 b3 b4 b5 b6 b7 b8 b9
      have X4 : LegBox (w3.setCell ⟨w.heap.size, 9, none⟩ (.slice a3 (cutN d k).length c3)) w.heap.size (withH d (cutN d k)) { p with aH := a3, cH := c3 } := X3.set9 (cutN d k) a3 c3
      have R4 : (w3.setCell ⟨w.heap.size, 9, none⟩ (.slice a3 (cutN d k).length c3)).heap[w.heap.size + 1]? = some (.cells #[.string ⟨#[]⟩, .string ⟨#[]⟩, .string ⟨#[]⟩, .int .i64 0, .int .i64 0, .int .i64 0, .slice none 0 0, .slice none 0 0, .slice none 0 0, .slice none 0 0] 31 (0, 0)) := (set_other _ (by omega)).trans ((D23.block _ (lt_heap R1.out)).trans R1.out)
      have gs4 := grown_set w3 ⟨w.heap.size, 9, none⟩ (.slice a3 (cutN d k).length c3)
      have n4 := n3.far gs4 (fun q e => by cases e; left; show w.heap.size < _; omega)
      have D4 := (bt D1.out D23).setCell (p := ⟨w.heap.size, 9, none⟩) (Nat.le_refl _) (.slice a3 (cutN d k).length c3)
      have N4h := Lib.hid n4
      have D4h := Lib.hid D4
      have R4h := Lib.hid R4
      clear n3 n4 D4 R4 gs4 X2 X3 D12 D23
      generalize w3.setCell ⟨w.heap.size, 9, none⟩ (.slice a3 (cutN d k).length c3) = W4 at *
      have g0 := X4.c0
      have g1 := X4.c1
      have g2 := X4.c2
      have g3 := X4.c3
      have g4 := X4.c4
      have g5 := X4.c5
      have g6 := X4.c6
      have g7 := X4.c7
      have g8 := X4.c8
      have g9 := X4.c9
      clear X4
      go_wp2_with (first
        | (refine wpList_store_row rfl 31 _ _ rfl (w.heap.size + 1) (LegC (withH d (cutN d k)) { p with aH := a3, cH := c3 }) rfl rfl 31 #[.string ⟨#[]⟩, .string ⟨#[]⟩, .string ⟨#[]⟩, .int .i64 0, .int .i64 0, .int .i64 0, .slice none 0 0, .slice none 0 0, .slice none 0 0, .slice none 0 0] R4h.out legSize rfl (leg_one1 _ _) ?_)
        | fail)
      clear g0 g1 g2 g3 g4 g5 g6 g7 g8 g9
      have hfin : LegBox (W4.setRow (w.heap.size + 1) (LegC (withH d (cutN d k)) { p with aH := a3, cH := c3 })) (w.heap.size + 1) (withH d (cutN d k)) { p with aH := a3, cH := c3 } := setRow_heap W4 (w.heap.size + 1) _ _ _ _ R4h.out
      have gr := grown_setRow W4 (w.heap.size + 1) (LegC (withH d (cutN d k)) { p with aH := a3, cH := c3 })
      have hb6 := D4h.out.grown gr D4h.out.size (fun q e => by cases e; omega)
      have n6 := N4h.out.far gr (fun q e => by cases e; left; omega)
      have HN6 := Lib.hid n6.holds
      generalize W4.setRow (w.heap.size + 1) (LegC (withH d (cutN d k)) { p with aH := a3, cH := c3 }) = W6 at *
      have y0 := hfin.c0
      have y1 := hfin.c1
      have y2 := hfin.c2
      have y3 := hfin.c3
      have y4 := hfin.c4
      have y5 := hfin.c5
      have y6 := hfin.c6
      have y7 := hfin.c7
      have y8 := hfin.c8
      have y9 := hfin.c9
      clear hfin gr n6
      have hs := cut_same hlt
      have hV : LegV (withH d (cutN d k)) { p with aH := a3, cH := c3 } = LegV (dropD d txn) { p with aH := a3, cH := c3 } := by rw [hdrop.out]; exact LegV.same hs _
      have hI : LegIn W6 (dropD d txn) { p with aH := a3, cH := c3 } := by
        rw [hdrop.out]
        have hin6 := Hin.out.kept hb6
        exact LegIn.same (a := withH d (cutN d k)) ⟨hin6.1, hin6.2.1, hin6.2.2.1, HN6.out⟩ hs
      refine bodyPost_ret (v := LegV (withH d (cutN d k)) { p with aH := a3, cH := c3 }) ?_ rfl ⟨⟨a3, c3, by rw [hV], by rw [hdrop.out]; show d.nH - 1 ≤ c3; rw [cutN_len hlt] at hc3; exact hc3, hI⟩, hb6⟩
      rw [LegV_eq]
      unfold LegC
      rw [results_cell1 rfl]
      go_simp
end Go.Proofs.Ytmlkjlipjkmcfaa
