/-
  What is held of a leg as the program's linked list has it: put in, taken out.
-/
import Derived.Test.YtbnjmdeabhikkaaLink2
namespace Go.Proofs.Ytbnjmdeabhikkaa
open Go.RowKit
set_option linter.unusedVariables false
set_option linter.unusedSimpArgs false

theorem ptrAt_ptr (L : List Nd) (k : Nat) : ∃ q, ptrAt L k = .pointer q := by
  unfold ptrAt
  cases L[k]? with
  | none => exact ⟨none, rfl⟩
  | some n => exact ⟨_, rfl⟩
set_option maxHeartbeats 4000000 in
theorem putI (B h : Nat) (L : List Nd) (x y z : Int) (w : World) (H : HList B w h L) (hB : B ≤ w.heap.size) :
    Calls Try.prog 46 #[.pointer (some ⟨h, 0, none⟩), .agg #[.int .i64 x, .int .i64 y, .int .i64 z]] w fun e w' => (∃ v, e = .returned v) ∧ (∃ k b, AtPos L x k ∧ HList B w' h (L.insertIdx k ⟨b, x, y, z⟩)) ∧ Below B w w' := by
  have hbA : Below w.heap.size w (w.alloc (.cells #[.int .i64 x, .int .i64 y, .int .i64 z] 35)) := (Below.refl _ _).alloc (Nat.le_refl _) _
  have hbox : (w.alloc (.cells #[.int .i64 x, .int .i64 y, .int .i64 z] 35)).heap[w.heap.size]? = some (.cells #[.int .i64 x, .int .i64 y, .int .i64 z] 35 (0, 0)) := heap_alloc_new w _
  obtain ⟨c0, c1, c2⟩ := row3 hbox
  have HA := Lib.hid (H.kept hbA)
  have HbA := Lib.hid (hbA.mono hB)
  have hsz : B ≤ (w.alloc (.cells #[.int .i64 x, .int .i64 y, .int .i64 z] 35)).heap.size := Nat.le_trans hB hbA.size
  clear H hbA hbox
  go_enter Try.func46, Try.ntmps46
  go_wp2_with fail
  generalize w.alloc (.cells #[.int .i64 x, .int .i64 y, .int .i64 z] 35) = W at *
  refine (atI B h L x W HA.out).mono ?_
  rintro e w' ⟨⟨k, hpos, rfl⟩, rfl⟩
  obtain ⟨cA, fA⟩ := HA.out.slot k hpos.1
  have HP := Lib.hid hpos
  have hlow := slotA_low (k := k) HA.out
  have HL := Lib.hid (HA.out.ins hsz hpos.1 ⟨W.heap.size, x, y, z⟩ rfl)
  obtain ⟨q, hq⟩ := ptrAt_ptr L k
  rw [hq] at cA
  obtain ⟨cB, fB⟩ := (HA.out.kept ((Below.refl _ W).alloc (Nat.le_refl _) (.cells #[.int .i64 x, .int .i64 y, .int .i64 z, .pointer q] 81))).slot k hpos.1
  rw [hq] at cB
  have hbB : Hid (Below B W (W.alloc (.cells #[.int .i64 x, .int .i64 y, .int .i64 z, .pointer q] 81))) := ((Below.refl _ W).alloc (Nat.le_refl _) _).mono hsz
  unfold NdC at HL
  rw [hq] at HL
  clear hq hpos
  generalize slotA h L k = A at *
  go_wp2_with fail
  go_region
  all_goals
    go_end0
    exact ⟨⟨_, rfl⟩, ⟨k, _, HP.out, HL.out.kept (Below.refl _ _).drew⟩, HbA.out.trans ((hbB.out.setCell (p := A) hlow _).drew)⟩

/-- What is taken out: what is held for the transaction, nothing if nothing is. -/
def Taken (L : List Nd) (txn : Int) (x y z : Int) (M : List Nd) : Prop := ∃ k, AtPos L txn k ∧ ((∃ n, L[k]? = some n ∧ n.t = txn ∧ x = n.t ∧ y = n.c ∧ z = n.s ∧ M = L.eraseIdx k) ∨ ((∀ n, L[k]? = some n → n.t ≠ txn) ∧ x = 0 ∧ y = 0 ∧ z = 0 ∧ M = L))

set_option maxHeartbeats 4000000 in
theorem takeI (B h : Nat) (L : List Nd) (txn : Int) (w : World) (H : HList B w h L) (hB : B ≤ w.heap.size) :
    Calls Try.prog 89 #[.pointer (some ⟨h, 0, none⟩), .int .i64 txn] w fun e w' => (∃ x y z M, Taken L txn x y z M ∧ e = .returned (.agg #[.int .i64 x, .int .i64 y, .int .i64 z]) ∧ HList B w' h M) ∧ Below B w w' := by
  have hbA : Below w.heap.size w (w.alloc (.cells #[.int .i64 0, .int .i64 0, .int .i64 0] 35)) := (Below.refl _ _).alloc (Nat.le_refl _) _
  have hbox : (w.alloc (.cells #[.int .i64 0, .int .i64 0, .int .i64 0] 35)).heap[w.heap.size]? = some (.cells #[.int .i64 0, .int .i64 0, .int .i64 0] 35 (0, 0)) := heap_alloc_new w _
  have HA := Lib.hid (H.kept hbA)
  have HbA := Lib.hid (hbA.mono hB)
  have hsz : B ≤ (w.alloc (.cells #[.int .i64 0, .int .i64 0, .int .i64 0] 35)).heap.size := Nat.le_trans hB hbA.size
  have HBox := Lib.hid hbox
  have HW := Lib.hid H
  have hwW : w.heap.size < (w.alloc (.cells #[.int .i64 0, .int .i64 0, .int .i64 0] 35)).heap.size := by simp
  have hBh := H.low
  clear H hbA hbox
  go_enter Try.func89, Try.ntmps89
  go_wp2_with fail
  generalize w.alloc (.cells #[.int .i64 0, .int .i64 0, .int .i64 0] 35) = W at *
  refine (hasI B h L txn W HA.out).mono ?_
  rintro e w' ⟨k, b, hpos, rfl, hb, rfl⟩
  have HP := Lib.hid hpos
  cases b with
  | false =>
    have hno : Hid (∀ n, L[k]? = some n → n.t ≠ txn) := fun n h1 h2 => by have := hb.out.2 ⟨n, h1, h2⟩; cases this
    clear hb hpos
    go_wp2_with (first
      | (refine wpList_store_row rfl 35 _ _ rfl w.heap.size #[.int .i64 0, .int .i64 0, .int .i64 0] rfl rfl 35 #[.int .i64 0, .int .i64 0, .int .i64 0] HBox.out holdSize rfl (hold_one 0 0 0) ?_)
      | fail)
    have hR := setRow_heap W w.heap.size _ #[.int .i64 0, .int .i64 0, .int .i64 0] _ _ HBox.out
    have gr := grown_setRow W w.heap.size #[.int .i64 0, .int .i64 0, .int .i64 0]
    obtain ⟨d0, d1, d2⟩ := row3 hR
    have HB2 := Lib.hid ((HbA.out).grown gr (by have := HbA.out.size; omega) (fun k e => by cases e; exact hB))
    have HL2 : Hid (HList B (W.setRow w.heap.size #[.int .i64 0, .int .i64 0, .int .i64 0]) h L) := by
      have hHW := HW.out
      refine ⟨HA.out.low, HA.out.lows, ?_, ?_, HA.out.far, HA.out.one⟩
      · rw [setRow_other _ _ _ _ (by have := lt_heap hHW.head; omega)]; exact HA.out.head
      · intro k n hk
        rw [setRow_other _ _ _ _ (by have := lt_heap (hHW.node k n hk); omega)]; exact HA.out.node k n hk
    clear hR gr
    generalize W.setRow w.heap.size #[.int .i64 0, .int .i64 0, .int .i64 0] = W2 at *
    refine bodyPost_ret (v := .agg #[.int .i64 0, .int .i64 0, .int .i64 0]) ?_ rfl ⟨⟨0, 0, 0, L, ⟨k, HP.out, Or.inr ⟨hno.out, rfl, rfl, rfl, rfl⟩⟩, rfl, HL2.out⟩, HB2.out⟩
    rw [results_cell1 rfl]
    go_simp
  | true =>
    have hyes : Hid (∃ n, L[k]? = some n ∧ n.t = txn) := hb.out.1 rfl
    obtain ⟨n, hn, ht⟩ := hyes.out
    clear hb
    have HN := Lib.hid hn
    have HT := Lib.hid ht
    clear hpos hn ht
    go_wp2_with fail
    refine (atI B h L txn W HA.out).mono ?_
    rintro e w' ⟨⟨k', hpos', rfl⟩, rfl⟩
    obtain rfl : k' = k := hpos'.one HP.out
    obtain ⟨cA, fA⟩ := HA.out.slot k' hpos'.1
    obtain ⟨e0, e1, e2, e3⟩ := HA.out.cells HN.out
    rw [show ptrAt L k' = .pointer (some ⟨n.b, 0, none⟩) from by unfold ptrAt; rw [HN.out]; rfl] at cA
    have hlow := slotA_low (k := k') HA.out
    have hsl := slotA_lt (k := k') HW.out
    have hb1 : Below W.heap.size W (W.alloc (.cells #[.int .i64 n.t, .int .i64 n.c, .int .i64 n.s] 35)) := (Below.refl _ W).alloc (Nat.le_refl _) _
    have HA1 := HA.out.kept hb1
    obtain ⟨cB, fB⟩ := HA1.slot k' hpos'.1
    obtain ⟨g0, g1, g2, g3⟩ := HA1.cells HN.out
    rw [show ptrAt L k' = .pointer (some ⟨n.b, 0, none⟩) from by unfold ptrAt; rw [HN.out]; rfl] at cB
    have HD := Lib.hid (HA1.del HN.out)
    have hbox1 : (W.alloc (.cells #[.int .i64 n.t, .int .i64 n.c, .int .i64 n.s] 35)).heap[W.heap.size]? = some (.cells #[.int .i64 n.t, .int .i64 n.c, .int .i64 n.s] 35 (0, 0)) := heap_alloc_new W _
    have hbox0 := (hb1.block _ hwW).trans HBox.out
    obtain ⟨q, hq⟩ := ptrAt_ptr L (k' + 1)
    rw [hq] at e3 g3 HD
    have HB1 := Lib.hid ((HbA.out.trans (hb1.mono hsz)).setCell (p := slotA h L k') hlow (.pointer q))
    obtain ⟨ab, ai, hA⟩ := slotA_spot h L k'
    rw [hA] at hsl hlow cA fA cB fB HD HB1 ⊢
    dsimp only at hsl hlow
    have hbox2 : ((W.alloc (.cells #[.int .i64 n.t, .int .i64 n.c, .int .i64 n.s] 35)).setCell ⟨ab, ai, none⟩ (.pointer q)).heap[W.heap.size]? = some (.cells #[.int .i64 n.t, .int .i64 n.c, .int .i64 n.s] 35 (0, 0)) := (set_other _ (by omega)).trans hbox1
    have hbox3 : ((W.alloc (.cells #[.int .i64 n.t, .int .i64 n.c, .int .i64 n.s] 35)).setCell ⟨ab, ai, none⟩ (.pointer q)).heap[w.heap.size]? = some (.cells #[.int .i64 0, .int .i64 0, .int .i64 0] 35 (0, 0)) := (set_other _ (by omega)).trans hbox0
    obtain ⟨u0, u1, u2⟩ := row3 hbox2
    have HBox3 := Lib.hid hbox3
    have HLo : Hid (∀ W', HList B W' h (L.eraseIdx k') → w.heap.size ≠ h ∧ ∀ (j : Nat) (m : Nd), (L.eraseIdx k')[j]? = some m → m.b ≠ w.heap.size) := fun W' hW' => by
      refine ⟨by have := lt_heap HW.out.head; omega, fun j m hj => ?_⟩
      rw [List.getElem?_eraseIdx] at hj
      split at hj
      · have := lt_heap (HW.out.node _ _ hj); omega
      · have := lt_heap (HW.out.node _ _ hj); omega
    clear hpos' hbox0 hbox1 hbox2 hbox3 hb1 HA1 hq hA
    go_wp2_with (first
      | (refine wpList_store_row rfl 35 _ _ rfl w.heap.size #[.int .i64 n.t, .int .i64 n.c, .int .i64 n.s] rfl rfl 35 #[.int .i64 0, .int .i64 0, .int .i64 0] HBox3.out holdSize rfl (hold_one _ _ _) ?_)
      | fail)
    generalize (W.alloc (.cells #[.int .i64 n.t, .int .i64 n.c, .int .i64 n.s] 35)).setCell ⟨ab, ai, none⟩ (.pointer q) = W2 at *
    have hR := setRow_heap W2 w.heap.size _ #[.int .i64 n.t, .int .i64 n.c, .int .i64 n.s] _ _ HBox3.out
    have gr := grown_setRow W2 w.heap.size #[.int .i64 n.t, .int .i64 n.c, .int .i64 n.s]
    obtain ⟨d0, d1, d2⟩ := row3 hR
    have HB2 := Lib.hid ((HB1.out).grown gr (by have := HB1.out.size; omega) (fun k e => by cases e; exact hB))
    have HL2 : Hid (HList B (W2.setRow w.heap.size #[.int .i64 n.t, .int .i64 n.c, .int .i64 n.s]) h (L.eraseIdx k')) := by
      have hD := HD.out
      obtain ⟨o1, o2⟩ := HLo.out _ hD
      refine ⟨hD.low, hD.lows, ?_, ?_, hD.far, hD.one⟩
      · rw [setRow_other _ _ _ _ (by omega)]; exact hD.head
      · intro k m hk
        rw [setRow_other _ _ _ _ (by have := o2 k m hk; omega)]; exact hD.node k m hk
    clear hR gr u0 u1 u2 g0 g1 g2 g3 e0 e1 e2 e3 cA fA cB fB
    generalize W2.setRow w.heap.size #[.int .i64 n.t, .int .i64 n.c, .int .i64 n.s] = W3 at *
    refine bodyPost_ret (v := .agg #[.int .i64 n.t, .int .i64 n.c, .int .i64 n.s]) ?_ rfl ⟨⟨n.t, n.c, n.s, L.eraseIdx k', ⟨k', HP.out, Or.inl ⟨n, HN.out, HT.out, rfl, rfl, rfl, rfl⟩⟩, rfl, HL2.out⟩, HB2.out⟩
    rw [results_cell1 rfl]
    go_simp
end Go.Proofs.Ytbnjmdeabhikkaa
