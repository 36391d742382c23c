/-
  The marks that the laws draw: a list in new memory, one to four of them; all that was there stays, but for the reader.
-/
import Derived.Test.YtjhgmmcglonokaaGreatDoorMarksLaw
import Derived.Test.YtjhgmmcglonokaaGreatDoorJ40
import Derived.OwnWalk
import Derived.WalkSmall
import Derived.Deep.DeepMust
import Derived.Deep.RegionWith
import Derived.Maps.AppendAt
import Derived.Deep.AppendLies
import Derived.Deep.RegionLaw
namespace Go.Proofs.YtjhgmmcglonokaaGreatDoor
open Go.RowKit
set_option linter.unusedVariables false


def cellsMR (ms : List (Int × Int)) : List Value := ms.flatMap fun m => [.int .i64 m.1, .int .i64 m.2]
theorem cellsM_at (ms : List (Int × Int)) (i : Nat) (h : i < ms.length) : (cellsMR ms)[i * 2]? = some (.int .i64 (ms[i]).1) ∧ (cellsMR ms)[i * 2 + 1]? = some (.int .i64 (ms[i]).2) := by
  induction ms generalizing i with
  | nil => simp at h
  | cons m r ih =>
    cases i with
    | zero => simp [cellsMR]
    | succ i =>
      have := ih i (by simpa using h)
      simp only [cellsMR, List.flatMap_cons] at this ⊢
      rw [show (i + 1) * 2 = i * 2 + 1 + 1 from by omega]
      simpa using this
theorem cellsM_set (ms : List (Int × Int)) (j : Nat) (v : Int) (h : j < ms.length) : (cellsMR ms).set (j * 2 + 1) (.int .i64 v) = cellsMR (ms.set j ((ms[j]).1, v)) := by
  induction ms generalizing j with
  | nil => simp at h
  | cons m r ih =>
    cases j with
    | zero => simp [cellsMR]
    | succ j =>
      have := ih j (by simpa using h)
      simp only [cellsMR, List.flatMap_cons, List.set_cons_succ, List.getElem_cons_succ] at this ⊢
      rw [← this, show (j + 1) * 2 + 1 = j * 2 + 1 + 1 + 1 from by omega]
      simp
theorem cellsMR_snoc (ms : List (Int × Int)) (a b : Int) : cellsMR ms ++ [.int .i64 a, .int .i64 b] = cellsMR (ms ++ [(a, b)]) := by simp [cellsMR]

theorem own_lit (w : World) (B : Nat) (e : TypeId) (s n : Nat) (xs : List Value) (hb : B ≤ w.heap.size) (hm : n ≤ maxLen) (hs : xs.length = n * s) :
    (w.alloc (.cells xs.toArray e)).ownsRow B e s (.slice (some ⟨w.heap.size, 0, none⟩) n n) n xs :=
  ⟨hs, .inr ⟨w.heap.size, n, xs.toArray, rfl, hb, (MapKept.heap_alloc w _).1, Nat.le_refl _, hm, by simpa using hs, by simp [← hs]⟩⟩
/-- An owned row of marks. -/
def OwnM (B : Nat) (w : World) (v : Value) (n : Nat) : Prop := ∃ ms : List (Int × Int), ms.length = n ∧ w.ownsRow B 93 2 v n (cellsMR ms) ∧ (∀ m ∈ ms, 0 ≤ m.1 ∧ m.1 ≤ 31 * n) ∧ v ≠ .slice none 0 0
theorem news_new (w : World) (xs : List Value) (T : TypeId) : ∀ j u, xs[j]? = some u → (w.alloc (.cells xs.toArray T)).cell? ((⟨w.heap.size, 0, none⟩ : Addr).add j) = some u := by
  intro j u hj
  have h : (w.alloc (.cells xs.toArray T)).heap[w.heap.size]? = some (.cells xs.toArray T) := (MapKept.heap_alloc w _).1
  have e : (⟨w.heap.size, 0, none⟩ : Addr).add j = ⟨w.heap.size, j, none⟩ := by by_cases h0 : j = 0 <;> simp [Addr.add, h0]
  rw [e]
  unfold World.cell?
  rw [h]
  simpa using hj
theorem int_pred {k : Nat} (h : 0 < k) : Value.int .i64 ((k : Int) - 1) = .int .i64 ((k - 1 : Nat) : Int) := by
  have : (k : Int) - 1 = ((k - 1 : Nat) : Int) := by omega
  rw [this]
theorem some_ne {a : Addr} {l c : Nat} : Value.slice (some a) l c ≠ .slice none 0 0 := by simp
theorem own_form {w : World} {B n s : Nat} {e : TypeId} {v : Value} {xs : List Value} (h : w.ownsRow B e s v n xs) (hv : v ≠ .slice none 0 0) : ∃ g cap, v = .slice (some ⟨g, 0, none⟩) n cap := by
  obtain ⟨-, h | ⟨g, cap, cur, rfl, -⟩⟩ := h
  · exact absurd h.1 hv
  · exact ⟨g, cap, rfl⟩
theorem grown_ownM {w wr w' : World} {b : Nat} {row : Option Nat} (h : w.grownBy wr (some b)) (k : wr.grownBy w' row) (hr : ∀ g, row = some g → w.heap.size ≤ g ∨ g = b) : w.grownBy w' (some b) :=
  ⟨k.os.trans h.os, k.tape.trans h.tape, k.output.trans h.output, Nat.le_trans h.size k.size, fun i hi hne => (k.block i (Nat.lt_of_lt_of_le hi h.size) (fun e => by
    rcases hr i e.symm with c | c
    · omega
    · subst c; exact hne rfl)).trans (h.block i hi hne)⟩
def DrawnM (w : World) (p0 : Nat) (b : Nat) (e : Ending) (w' : World) : Prop := ∃ (v : Value) (n p : Nat), 1 ≤ n ∧ n ≤ 4 ∧ e = .returned v ∧ OwnM (w.heap.size) w' v n ∧ Rd b w' b p ∧ p ≤ p0 + 20 ∧ Below b w w' ∧ w.grownBy w' (some b)

set_option maxRecDepth 100000 in
set_option maxHeartbeats 4000000 in
theorem drawMarks (b p : Nat) (w : World) (hr : Rd b w b p) (hp : p ≤ 100000) :
    Calls Tryz.prog 119 #[.pointer (some ⟨b, 0, none⟩)] w (DrawnM w p b) := by
  obtain ⟨i0, hi, hz0, hz1, hz2⟩ := info_parts infoMark
  go_enter Tryz.func119, Tryz.ntmps119
  go_wp2_with fail
  refine (pick b b p 20 _ hr (by omega) (by omega) (by omega)).mono ?_
  rintro e w1 ⟨x1, l1, u1, rfl, hr1, hg1, hs1⟩
  go_wp2_with fail
  have hq1 := hr1.le
  have hownA : (w1.alloc (.cells #[.int .i64 0, .int .i64 x1] 93)).ownsRow w.heap.size 93 2 (.slice (some ⟨w1.heap.size, 0, none⟩) 1 1) 1 (cellsMR [(0, x1)]) := by
    have h := own_lit w1 w.heap.size 93 2 1 (cellsMR [(0, x1)]) (by omega) (by unfold maxLen; omega) rfl
    exact h
  have hb1 : Below b w w1 := (Below.refl _ _).grown hg1 (by have := hr.le; omega) (fun k e => by cases e; exact Nat.le_refl _)
  have hbA : Below b w (w1.alloc (.cells #[.int .i64 0, .int .i64 x1] 93)) := hb1.alloc (by omega) _
  have gA : w.grownBy (w1.alloc (.cells #[.int .i64 0, .int .i64 x1] 93)) (some b) := grown_trans hg1 (grown_alloc _ _)
  have hrA := rd_alloc hr1 (.cells #[.int .i64 0, .int .i64 x1] 93)
  refine (pick b b _ 4 _ hrA (by omega) (by omega) (by omega)).mono ?_
  rintro e w2 ⟨x2, l2, u2, rfl, hr2, hg2, hs2⟩
  have hown2 := hownA.kept hg2 (Or.inr (by simp [Value.ownBlock]; omega))
  have hb2 : Below b w w2 := hbA.grown hg2 (by have := hrA.le; omega) (fun k e => by cases e; exact Nat.le_refl _)
  have g2 := Lib.hid (grown_trans gA hg2)
  clear gA
  obtain ⟨m, rfl⟩ := Int.eq_ofNat_of_zero_le l2
  go_wp2_with fail
  go_loopw [3, 4] (fun v n wr => ∃ k j q : Nat, n = .int .i64 k ∧ k + j ≤ 3 ∧ OwnM w.heap.size wr v (j + 1) ∧ Rd b wr b q ∧ q + 2 * k ≤ p + 10 ∧ Below b w wr ∧ Hid (w.grownBy wr (some b))) (fun _ n _ => (intOf n).toNat)
  case atStart => exact ⟨m, 0, _, rfl, by omega, ⟨[(0, x1)], rfl, by rw [hs1] at hown2; exact hown2, by simp, by simp⟩, hr2, by omega, hb2, g2⟩
  case round =>
    obtain ⟨k, j, q, rfl, hkj, ⟨ms, hml, hown, hms, hnil⟩, hr, hq, hb, gr⟩ := hrel
    obtain ⟨g, cap, rfl⟩ := own_form hown hnil
    have hlt := hown.lt g rfl
    have hle := hr.le
    have hb0 := hr2.le
    have c0 : wr.cell? ⟨g, j * 2, none⟩ = some (.int .i64 (ms[j]'(by omega)).1) := by rw [hown.cellAt (j * 2) (by omega)]; exact (cellsM_at ms j (by omega)).1
    obtain ⟨y0, y1⟩ := hms (ms[j]'(by omega)) (List.getElem_mem _)
    generalize (ms[j]'(by omega)).1 = y at *
    have Hown := Lib.hid hown
    have Hms := Lib.hid hms
    rcases Nat.lt_or_ge 0 k with hk | hk
    · clear hown hms hnil
      have kj : (j : Int) < (j : Int) + 1 := by omega
      have kj0 : (0 : Int) ≤ j := by omega
      have kw : IntKind.i64.wrap (j : Int) = (j : Int) := IntWalk.i64_in _ (by omega)
      have hgb : g ≠ b := by omega
      go_wp2_with fail
      go_region_law (first
        | (refine step_append_lies _ ?g1 ?gs ?gx 35 ?g2 w.heap.size 93 i0 (.agg #[.int .i64 0, .int .i64 0]) 2 16 ?g3 ?g4 ?g5 ?g6 ?g7 ?g8 ?g9 (.slice (some ⟨g, 0, none⟩) (j + 1) cap) (j + 1) (cellsMR ms) ?g10 ?h1 ⟨w4.heap.size, 0, none⟩ 1 1 [.int .i64 (y + 1 + r1), .int .i64 r2] ?g11 ?g12 ?h2 ?h3 ?c1 ?c2 ?c3 ?c4 (w4.heap.size + 1) ?c5 ?_; (case g1 => rfl); (case g2 => rfl); (case g10 => rfl); (case g11 => rfl); (case h1 => exact HO.out.alloc _); (case g3 => exact Tryz.underlying35); (case g4 => exact hi); (case g5 => exact hz0); (case g6 => exact hz1); (case g7 => exact hz2); (case g8 => rfl); (case g9 => decide); (case g12 => rfl); (case h2 => exact news_new _ _ _); (case h3 => intro u hu; simp at hu; rcases hu with rfl | rfl <;> rfl); (case c1 => decide); (case c2 => unfold maxLen; omega); (case c3 => omega); (case c4 => have := hb4.size; simp only [World.size_alloc]; omega); (case c5 => simp only [World.size_alloc]); intro g5 cap5 w5 hown5 hgrow5 hat5 hlt5)
        | (go_simp; go_at_call_of 42 (Value.int IntKind.i64 30); refine (pick b b q 30 _ ?_ ?_ ?_ ?_).mono ?_; exact hr.kept (Below.refl _ _).drew rfl; omega; omega; omega; rintro e w3 ⟨r1, a1, b1, rfl, hr3, hg3, -⟩; have c1 := hg3.cell (show wr.drew.cell? ⟨g, j * 2, none⟩ = _ from c0) (by simp; omega); have e1 : IntKind.i64.wrap (y + 1 + r1) = y + 1 + r1 := (IntWalk.i64_in _ (by omega)); have e0 : IntKind.i64.wrap (y + 1) = y + 1 := (IntWalk.i64_in _ (by omega)))
        | (go_simp; go_at_call_of 42 (Value.int IntKind.i64 20); refine (pick b b (q + 1) 20 _ ?_ ?_ ?_ ?_).mono ?_; exact hr3; omega; omega; omega; rintro e w4 ⟨r2, a2, b2, rfl, hr4, hg4, -⟩; have c2 := hg4.cell c1 (by simp; omega); have HO := Lib.hid ((Hown.out.kept (show wr.grownBy w3 (some b) from grown_trans (grownN wr 1 _) hg3) (Or.inr (by simp [Value.ownBlock]; omega))).kept hg4 (Or.inr (by simp [Value.ownBlock]; omega))); have hb4 : Below b w w4 := (((hb.trans (belowN (Below.refl _ _) 1)).grown hg3 (by show b ≤ wr.heap.size; omega) (fun k e => by cases e; exact Nat.le_refl _)).grown hg4 (by have := hr3.le; omega) (fun k e => by cases e; exact Nat.le_refl _))))
      all_goals
        have hrA5 := rd_alloc hr4 (.cells #[.int .i64 (y + 1 + r1), .int .i64 r2] 93)
        have hbA5 := hb4.alloc (by have := hr4.le; omega) (.cells #[.int .i64 (y + 1 + r1), .int .i64 r2] 93)
        go_wp2
        go_roundw
        case rel =>
          have hgrB := (Below.refl b _).grown hgrow5 (by have := hrA5.le; omega) (fun q e => by simp [Value.ownBlock] at e; omega)
          have gfin : Hid (w.grownBy w5 (some b)) := grown_ownM (grown_trans (grown_trans (grown_trans gr.out (show wr.grownBy w3 (some b) from grown_trans (grownN wr 1 _) hg3)) hg4) (grown_alloc _ _)) hgrow5 (fun q e => by simp [Value.ownBlock] at e; omega)
          refine ⟨k - 1, j + 1, q + 1 + 1, int_pred hk, by omega, ⟨ms ++ [(y + 1 + r1, r2)], by simp; omega, by rw [← cellsMR_snoc]; exact hown5, ?_, some_ne⟩, hrA5.kept hgrB (hgrow5.block _ hrA5.le.2 (by simp [Value.ownBlock]; omega)), by omega, hbA5.trans hgrB, gfin⟩
          intro m hm
          rcases List.mem_append.1 hm with h | h
          · have := Hms.out m h; omega
          · simp at h; subst h; simp only; omega
        case measure => simp [intOf]; omega
    · obtain rfl : k = 0 := by omega
      have hkk : ((j : Int) + 1).toNat = j + 1 := by omega
      go_wp2_with fail
      refine (pick b b q 16 _ hr (by omega) (by omega) (by omega)).mono ?_
      rintro e w3 ⟨r1, a1, b1, rfl, hr3, hg3, -⟩
      have hown3 := Hown.out.kept hg3 (Or.inr (by simp [Value.ownBlock]; omega))
      have hb3 : Below b w w3 := hb.grown hg3 (by omega) (fun k e => by cases e; exact Nat.le_refl _)
      cases hx : (r1 == 0) with
      | false =>
        clear hown
        go_wp2
        go_ret
        exact ⟨_, j + 1, q + 1, by omega, by omega, rfl, ⟨ms, hml, hown3, hms, hnil⟩, hr3, by omega, hb3, grown_trans gr.out hg3⟩
      | true =>
        have f1 := hown3.frozenAt (j * 2 + 1)
        have e1 : w3.cell? ⟨g, j * 2 + 1, none⟩ = some (.int .i64 (ms[j]'(by omega)).2) := by rw [hown3.cellAt (j * 2 + 1) (by omega)]; exact (cellsM_at ms j (by omega)).2
        generalize (ms[j]'(by omega)).2 = yy at *
        have HO3 := Lib.hid hown3
        have kj : (j : Int) < (j : Int) + 1 := by omega
        have kj0 : (0 : Int) ≤ j := by omega
        have kw : IntKind.i64.wrap (j : Int) = (j : Int) := IntWalk.i64_in _ (by omega)
        clear hown3 hown
        go_wp2
        go_ret
        have hset := cellsM_set ms j 1000000 (by omega)
        have hbs : Below b w (w3.setCell ⟨g, j * 2 + 1, none⟩ (.int .i64 1000000)) := hb3.setCell (by show b ≤ g; omega) _
        refine ⟨_, j + 1, q + 1, by omega, by omega, rfl, ⟨ms.set j ((ms[j]'(by omega)).1, 1000000), by simp; omega, by rw [← hset]; exact (HO3.out.stored (j * 2 + 1) _).1, ?_, some_ne⟩, hr3.kept ((Below.refl _ _).setCell (by show b ≤ g; omega) _) (Below.heap_setCell _ _ _ _ (by show b ≠ g; omega)), by omega, hbs, grown_ownM (row := some g) (grown_trans gr.out hg3) (grown_set w3 ⟨g, j * 2 + 1, none⟩ _) (fun q e => by injection e with e; omega)⟩
        intro x hx
        rcases List.mem_or_eq_of_mem_set hx with h | rfl
        · exact hms x h
        · exact hms (ms[j]'(by omega)) (List.getElem_mem _)
end Go.Proofs.YtjhgmmcglonokaaGreatDoor
