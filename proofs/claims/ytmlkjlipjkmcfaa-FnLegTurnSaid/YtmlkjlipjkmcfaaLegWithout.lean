/-
  A leg without what is held for a transaction, and that: the program's answer.
-/
import Derived.Test.YtmlkjlipjkmcfaaLegHolding
import Derived.Deep.RegionLaw
namespace Go.Proofs.Ytmlkjlipjkmcfaa
open Go.RowKit
set_option linter.unusedVariables false
set_option linter.unusedSimpArgs false

theorem run_storeRow {P : Program} (w : World) (g : Nat) (t : TypeId) (old cells : Array Value) (hg : w.heap[g]? = some (.cells old t (0, 0))) (ho : old.size = cells.size) (h1 : cells.all (·.oneCell') = true) :
    (storeCells ⟨g, 0, none⟩ cells.toList).run P w = .ok () (w.setRow g cells) := by
  have := run_storeCells_from (P := P) g t cells.toList 0 old w hg (by simp; omega) (fun v hv => (Array.all_eq_true_iff_forall_mem.1 h1) v (by simpa using hv))
  simpa [Addr.add, ho] using this
theorem fr3 {w : World} {b : Nat} {x y z : Value} {t : TypeId} (h : w.heap[b]? = some (.cells #[x, y, z] t (0, 0))) : w.frozen? ⟨b, 0, none⟩ = false ∧ w.frozen? ⟨b, 1, none⟩ = false ∧ w.frozen? ⟨b, 2, none⟩ = false := ⟨Lib.frozen_of_heap h 0, Lib.frozen_of_heap h 1, Lib.frozen_of_heap h 2⟩
theorem set3 {w : World} {b : Nat} {x y z x' y' z' : Value} {t : TypeId} (h : w.heap[b]? = some (.cells #[x, y, z] t (0, 0))) : (((w.setCell ⟨b, 0, none⟩ x').setCell ⟨b, 1, none⟩ y').setCell ⟨b, 2, none⟩ z').heap[b]? = some (.cells #[x', y', z'] t (0, 0)) := set_same (set_same (set_same h x') y') z'
theorem set3_other {w : World} {b b' : Nat} {x' y' z' : Value} (h : b ≠ b') : (((w.setCell ⟨b', 0, none⟩ x').setCell ⟨b', 1, none⟩ y').setCell ⟨b', 2, none⟩ z').heap[b]? = w.heap[b]? := by rw [set_other _ h, set_other _ h, set_other _ h]
theorem gr3 (w : World) (b : Nat) (x' y' z' : Value) : w.grownBy (((w.setCell ⟨b, 0, none⟩ x').setCell ⟨b, 1, none⟩ y').setCell ⟨b, 2, none⟩ z') (some b) := grown_trans (grown_trans (grown_set w ⟨b, 0, none⟩ x') (grown_set _ ⟨b, 1, none⟩ y')) (grown_set _ ⟨b, 2, none⟩ z')
theorem LegNew.mono {B B' : Nat} {w : World} {d : LegD} {p : LegP} (h : LegNew B w d p) (hB : B' ≤ B) : LegNew B' w d p := by
  obtain ⟨hc, b1, b2, b3, b4, q1, q2, q3, q4, q5, h1, h2, h3, h4⟩ := h
  exact ⟨hc, b1, b2, b3, b4, by omega, q2, q3, q4, q5, h1.mono hB (Nat.le_refl _), h2, h3, h4⟩
theorem Taken.len {L M : List Nd} {txn x y z : Int} (h : Taken L txn x y z M) : M.length ≤ L.length := by
  obtain ⟨k, -, h⟩ := h
  rcases h with ⟨n, -, -, -, -, -, rfl⟩ | ⟨-, -, -, -, rfl⟩
  · exact List.length_eraseIdx_le _ _
  · exact Nat.le_refl _

set_option maxRecDepth 100000 in
set_option maxHeartbeats 8000000 in
theorem legWithoutI (d : LegD) (p : LegP) (txn : Int) (w : World) (hin : LegIn w d p) (hf : Fits d) (ho : HoldsOk d) :
    Calls Try.prog 69 #[LegV d p, .int .i64 txn] w fun e w' => ∃ p' L x y z M, RdN L d.t d.c d.s d.nH ∧ Taken L txn x y z M ∧ e = .returned (.tuple #[LegV (withH d M) p', .agg #[.int .i64 x, .int .i64 y, .int .i64 z]]) ∧ LegNew w.heap.size w' (withH d M) p' ∧ Below w.heap.size w w' := by
  have hbC : Below w.heap.size w (((w.alloc (.cells (LegC d p) 31)).alloc (.cells #[.string ⟨#[]⟩, .string ⟨#[]⟩, .string ⟨#[]⟩, .int .i64 0, .int .i64 0, .int .i64 0, .slice none 0 0, .slice none 0 0, .slice none 0 0, .slice none 0 0] 31)).alloc (.cells #[.int .i64 0, .int .i64 0, .int .i64 0] 35)) := (((Below.refl _ _).alloc (Nat.le_refl _) _).alloc (by simp) _).alloc (by simp; omega) _
  have hX : LegBox (((w.alloc (.cells (LegC d p) 31)).alloc (.cells #[.string ⟨#[]⟩, .string ⟨#[]⟩, .string ⟨#[]⟩, .int .i64 0, .int .i64 0, .int .i64 0, .slice none 0 0, .slice none 0 0, .slice none 0 0, .slice none 0 0] 31)).alloc (.cells #[.int .i64 0, .int .i64 0, .int .i64 0] 35)) w.heap.size d p := ((LegBox.new w d p).kept ((Below.refl _ _).alloc (Nat.le_refl _) _)).kept ((Below.refl _ _).alloc (Nat.le_refl _) _)
  have hR : (((w.alloc (.cells (LegC d p) 31)).alloc (.cells #[.string ⟨#[]⟩, .string ⟨#[]⟩, .string ⟨#[]⟩, .int .i64 0, .int .i64 0, .int .i64 0, .slice none 0 0, .slice none 0 0, .slice none 0 0, .slice none 0 0] 31)).alloc (.cells #[.int .i64 0, .int .i64 0, .int .i64 0] 35)).heap[w.heap.size + 1]? = some (.cells #[.string ⟨#[]⟩, .string ⟨#[]⟩, .string ⟨#[]⟩, .int .i64 0, .int .i64 0, .int .i64 0, .slice none 0 0, .slice none 0 0, .slice none 0 0, .slice none 0 0] 31 (0, 0)) := by
    have := heap_alloc_new (w.alloc (.cells (LegC d p) 31)) (.cells #[.string ⟨#[]⟩, .string ⟨#[]⟩, .string ⟨#[]⟩, .int .i64 0, .int .i64 0, .int .i64 0, .slice none 0 0, .slice none 0 0, .slice none 0 0, .slice none 0 0] 31)
    rw [World.size_alloc] at this
    exact (((Below.refl _ _).alloc (Nat.le_refl _) _).block _ (by simp)).trans this
  have hT : (((w.alloc (.cells (LegC d p) 31)).alloc (.cells #[.string ⟨#[]⟩, .string ⟨#[]⟩, .string ⟨#[]⟩, .int .i64 0, .int .i64 0, .int .i64 0, .slice none 0 0, .slice none 0 0, .slice none 0 0, .slice none 0 0] 31)).alloc (.cells #[.int .i64 0, .int .i64 0, .int .i64 0] 35)).heap[w.heap.size + 1 + 1]? = some (.cells #[.int .i64 0, .int .i64 0, .int .i64 0] 35 (0, 0)) := by
    have := heap_alloc_new ((w.alloc (.cells (LegC d p) 31)).alloc (.cells #[.string ⟨#[]⟩, .string ⟨#[]⟩, .string ⟨#[]⟩, .int .i64 0, .int .i64 0, .int .i64 0, .slice none 0 0, .slice none 0 0, .slice none 0 0, .slice none 0 0] 31)) (.cells #[.int .i64 0, .int .i64 0, .int .i64 0] 35)
    simpa only [World.size_alloc] using this
  have Hin := Lib.hid hin
  have HF := Lib.hid hf
  have HO := Lib.hid ho
  have D0 := Lib.hid hbC
  have X0 := Lib.hid hX
  have R0 := Lib.hid hR
  have T0 := Lib.hid hT
  have b0 := hX.c0
  have b1 := hX.c1
  have b2 := hX.c2
  have b3 := hX.c3
  have b4 := hX.c4
  have b5 := hX.c5
  have b6 := hX.c6
  have b7 := hX.c7
  have b8 := hX.c8
  have b9 := hX.c9
  rw [LegV_eq]
  generalize hLC : LegC d p = LC at *
  have HLC := Lib.hid hLC
  clear hbC hX hR hT hin hf ho hLC
  go_enter Try.func69, Try.ntmps69
  go_wp2_with fail
  generalize (((w.alloc (.cells LC 31)).alloc (.cells #[.string ⟨#[]⟩, .string ⟨#[]⟩, .string ⟨#[]⟩, .int .i64 0, .int .i64 0, .int .i64 0, .slice none 0 0, .slice none 0 0, .slice none 0 0, .slice none 0 0] 31)).alloc (.cells #[.int .i64 0, .int .i64 0, .int .i64 0] 35)) = W0 at *
  refine (heldOfI d p W0 (Hin.out.kept D0.out) HO.out).mono ?_
  rintro e w1 ⟨⟨hb, L, rfl, H1, hrd⟩, d1⟩
  have HRd := Lib.hid hrd
  have HL1 := Lib.hid H1
  have X1 := Lib.hid (X0.out.kept d1)
  have R1 := Lib.hid ((d1.block _ (lt_heap R0.out)).trans R0.out)
  have T1 := Lib.hid ((d1.block _ (lt_heap T0.out)).trans T0.out)
  have D1 := Lib.hid (bt D0.out d1)
  have s1 := d1.size
  have l0 := lt_heap T0.out
  clear b0 b1 b2 b3 b4 b5 b6 b7 b8 b9 hrd H1 d1
  go_wp2_with fail
  refine (takeI W0.heap.size hb L txn w1 HL1.out s1).mono ?_
  rintro e w2 ⟨⟨x, y, z, M, htk, rfl, H2⟩, d2⟩
  have HTk := Lib.hid htk
  have d12 : Below W0.heap.size W0 W0 := Below.refl _ _
  have D2 := Lib.hid (D1.out.trans (d2.mono (by omega)))
  have X2' : LegBox w2 w.heap.size d p := (d2.block _ (by omega)).trans X1.out
  have R2' := (d2.block (w.heap.size + 1) (by omega)).trans R1.out
  have T2' := (d2.block (w.heap.size + 1 + 1) (by omega)).trans T1.out
  have hb3 : Below w2.heap.size w2 (w2.alloc (.cells #[.int .i64 x, .int .i64 y, .int .i64 z] 35)) := (Below.refl _ _).alloc (Nat.le_refl _) _
  have hbx3 := heap_alloc_new w2 (.cells #[.int .i64 x, .int .i64 y, .int .i64 z] 35)
  have X3 := X2'.kept hb3
  have R3 := Lib.hid ((hb3.block _ (lt_heap R2')).trans R2')
  have T3 := Lib.hid ((hb3.block _ (lt_heap T2')).trans T2')
  have D3 := Lib.hid (bt D2.out hb3)
  have H3 := Lib.hid (H2.kept hb3)
  have hlen : M.length ≤ 1048576 := by have := HTk.out.len; have := HRd.out.1; have := HO.out.1; omega
  have V3 := Lib.hid hbx3
  have s2 : w.heap.size + 1 + 1 < w2.heap.size := lt_heap T2'
  have b0 := X3.c0
  have b1 := X3.c1
  have b2 := X3.c2
  have b3 := X3.c3
  have b4 := X3.c4
  have b5 := X3.c5
  have b6 := X3.c6
  have b7 := X3.c7
  have b8 := X3.c8
  have b9 := X3.c9
  obtain ⟨u0, u1, u2⟩ := row3 hbx3
  clear htk H2 d2 d12 X2' R2' T2' hb3 hbx3 X3
  go_wp2_with fail
  generalize hW3 : w2.alloc (.cells #[.int .i64 x, .int .i64 y, .int .i64 z] 35) = W3 at *
  have s3 : W3.heap.size = w2.heap.size + 1 := by rw [← hW3]; simp
  clear hW3
  go_region_law (first
    | (go_simp; go_at_call 47; refine (legHoldingI W0.heap.size hb M d p W3.drew (Hin.out.kept D3.out.drew) HF.out (H3.out.kept (Below.refl _ _).drew) hlen).mono ?_; rintro e w5 ⟨p5, rfl, hn5, d5'⟩; have d5 : Below W3.heap.size W3 w5 := (Below.refl _ W3).drew.trans d5'; obtain ⟨v0, v1, v2⟩ := row3 ((d5.block _ (lt_heap V3.out)).trans V3.out); have R5 := (d5.block _ (lt_heap R3.out)).trans R3.out; have T5 := (d5.block _ (lt_heap T3.out)).trans T3.out; have st5 := run_storeRow (P := Try.prog) w5 (w.heap.size + 1) 31 #[.string ⟨#[]⟩, .string ⟨#[]⟩, .string ⟨#[]⟩, .int .i64 0, .int .i64 0, .int .i64 0, .slice none 0 0, .slice none 0 0, .slice none 0 0, .slice none 0 0] (LegC (withH d M) p5) R5 rfl (leg_one1 _ _); have ls5 : (LegC (withH d M) p5).size = 10 := rfl; have T6 := (setRow_other w5 (w.heap.size + 1) (w.heap.size + 1 + 1) (LegC (withH d M) p5) (by omega)).trans T5; obtain ⟨x0, x1, x2⟩ := row3 T6; obtain ⟨y0, y1, y2⟩ := fr3 T6; obtain ⟨z0, z1, z2⟩ := row3 ((setRow_other w5 (w.heap.size + 1) w2.heap.size (LegC (withH d M) p5) (by omega)).trans ((d5.block _ (lt_heap V3.out)).trans V3.out)); have HR5 := Lib.hid R5; have HT6 := Lib.hid T6; clear R5 T5 T6; rw [LegV_eq]))
  all_goals
    have hX6 : LegBox (w5.setRow (w.heap.size + 1) (LegC (withH d M) p5)) (w.heap.size + 1) (withH d M) p5 := setRow_heap _ _ _ _ _ _ HR5.out
    have gr5 := grown_setRow w5 (w.heap.size + 1) (LegC (withH d M) p5)
    have hT6 := HT6.out
    have hn6 := hn5.far gr5 (fun k e => by cases e; have q : W3.drew.heap.size = W3.heap.size := rfl; omega)
    have D6 : Below w.heap.size w (w5.setRow (w.heap.size + 1) (LegC (withH d M) p5)) := (bt D3.out d5).grown gr5 (bt D3.out d5).size (fun k e => by cases e; omega)
    clear v0 v1 v2 st5 ls5 x0 x1 x2 y0 y1 y2 z0 z1 z2 b0 b1 b2 b3 b4 b5 b6 b7 b8 b9 u0 u1 u2
    generalize w5.setRow (w.heap.size + 1) (LegC (withH d M) p5) = W6 at *
    have hX7 : LegBox (((W6.setCell ⟨w.heap.size + 1 + 1, 0, none⟩ (.int .i64 x)).setCell ⟨w.heap.size + 1 + 1, 1, none⟩ (.int .i64 y)).setCell ⟨w.heap.size + 1 + 1, 2, none⟩ (.int .i64 z)) (w.heap.size + 1) (withH d M) p5 := (set3_other (by omega)).trans hX6
    obtain ⟨t0, t1, t2⟩ := row3 (set3 (x' := .int .i64 x) (y' := .int .i64 y) (z' := .int .i64 z) hT6)
    have g3 := gr3 W6 (w.heap.size + 1 + 1) (.int .i64 x) (.int .i64 y) (.int .i64 z)
    have hn7 := hn6.far g3 (fun k e => by cases e; have q : W3.drew.heap.size = W3.heap.size := rfl; omega)
    have D7 := D6.grown g3 D6.size (fun k e => by cases e; omega)
    generalize ((W6.setCell ⟨w.heap.size + 1 + 1, 0, none⟩ (.int .i64 x)).setCell ⟨w.heap.size + 1 + 1, 1, none⟩ (.int .i64 y)).setCell ⟨w.heap.size + 1 + 1, 2, none⟩ (.int .i64 z) = W7 at *
    clear hX6 gr5 hT6 hn6 D6 g3 hn5 d5 d5'
    have a0 := hX7.c0
    have a1 := hX7.c1
    have a2 := hX7.c2
    have a3 := hX7.c3
    have a4 := hX7.c4
    have a5 := hX7.c5
    have a6 := hX7.c6
    have a7 := hX7.c7
    have a8 := hX7.c8
    have a9 := hX7.c9
    have hn8 := Lib.hid (hn7.mono (B' := w.heap.size) (by have q : W3.drew.heap.size = W3.heap.size := rfl; omega))
    clear hn7 hX7
    go_wp2
    refine bodyPost_ret (v := .tuple #[LegV (withH d M) p5, .agg #[.int .i64 x, .int .i64 y, .int .i64 z]]) ?_ rfl ⟨p5, L, x, y, z, M, HRd.out, HTk.out, rfl, hn8.out, D7⟩
    rw [LegV_eq]
    unfold LegC
    simp [results, Try.f69, go_sem, a0, a1, a2, a3, a4, a5, a6, a7, a8, a9, t0, t1, t2]
end Go.Proofs.Ytmlkjlipjkmcfaa
