/-
  The program's reader of a trip.
-/
import Derived.Test.YtlfmhhdlandcjaaDoorReadListS
import Derived.Test.YtlfmhhdlandcjaaDoorTripParse
import Derived.Test.YtlfmhhdlandcjaaDoorTripWriteR
import Derived.Laws.Tables
namespace Go.Proofs.YtlfmhhdlandcjaaDoor
open Go.RowKit
set_option linter.unusedVariables false
set_option linter.unusedSimpArgs false

theorem makeF (fn : Fn) (first cap : Array Value) (w : World) : (Instr.makeFunc fn first cap).run Tryd.prog w = .ok (.func fn first cap) w := rfl
theorem grown_block {w w' : World} {b g : Nat} (h : w.grownBy w' (some b)) (hg : g < w.heap.size) (hn : g ≠ b) : w'.heap[g]? = w.heap[g]? := h.block g hg (fun e => hn (Option.some.inj e))
theorem own_mono {w : World} {base base' size n : Nat} {e : TypeId} {v : Value} {xs : List Value} (h : w.ownsRow base e size v n xs) (hb : base' ≤ base) : w.ownsRow base' e size v n xs :=
  ⟨h.1, h.2.imp id fun ⟨g, cap, cur, hv, hB, r⟩ => ⟨g, cap, cur, hv, Nat.le_trans hb hB, r⟩⟩
theorem trip_one' (x y z : Value) (h : x.oneCell' = true) (h2 : y.oneCell' = true) (h3 : z.oneCell' = true) : (#[x, y, z] : Array Value).all (·.oneCell') = true := by simp [h, h2, h3]
theorem tripCells {W : World} {b : Nat} {t : TypeId} {i : Nat × Nat} {x y z : Value} (h : W.heap[b]? = some (.cells #[x, y, z] t i)) : W.cell? ⟨b, 0, none⟩ = some x ∧ W.cell? ⟨b, 1, none⟩ = some y ∧ W.cell? ⟨b, 2, none⟩ = some z := by
  obtain ⟨i1, i2⟩ := i
  refine ⟨?_, ?_, ?_⟩ <;> (rw [Lib.cell_of_heap h]; rfl)
def TripPost (b : Nat) (s : ByteArray) (p : Nat) (w : World) (e : Ending) (w' : World) : Prop :=
  w.grownBy w' (some b) ∧ ((Hid (rdTrip (restB s p) = none) ∧ e = Fell) ∨ ∃ (l : List ByteArray) (f : ByteArray) (n : Int) (q g cap : Nat), Hid (rdTrip (restB s p) = some ((l, f, n), restB s q)) ∧ 1 ≤ l.length ∧ l.length ≤ s.size ∧ (∀ x ∈ l, x.size ≤ s.size) ∧ f.size ≤ s.size ∧ e = .returned (.agg #[.slice (some ⟨g, 0, none⟩) l.length cap, .string f, .int .i64 n]) ∧ w'.ownsRow w.heap.size 9 1 (.slice (some ⟨g, 0, none⟩) l.length cap) l.length (cellsS l) ∧ RdS w' b s q)
set_option maxRecDepth 100000 in
set_option maxHeartbeats 8000000 in
theorem tripC (w0 : World) (b : Nat) (s : ByteArray) (p : Nat) (w : World) (h : RdS w b s p) (hs : s.size ≤ 1048576) (hL : LaidE w0) (hB : Below w0.heap.size w0 w) (hb : w0.heap.size ≤ b) :
    Calls Tryd.prog 35 #[.pointer (some ⟨b, 0, none⟩)] w (TripPost b s p w) := by
  have hmf := makeF
  have hlt := h.lt
  have hA : Below w.heap.size w (w.alloc (.cells #[.slice none 0 0, .string ⟨#[]⟩, .int .i64 0] 33)) := (Below.refl _ _).alloc (Nat.le_refl _) _
  have K := Lib.hid (listSC w0 b s p (w.alloc (.cells #[.slice none 0 0, .string ⟨#[]⟩, .int .i64 0] 33)) (h.kept hA) hs (hB.trans (hA.mono hB.size)) hb (fun q W h1 h2 => nameC b s q W h1 hs))
  have HB := Lib.hid (hB.trans (hA.mono hB.size))
  have HA : Hid (w.grownBy (w.alloc (.cells #[.slice none 0 0, .string ⟨#[]⟩, .int .i64 0] 33)) (some b)) := ⟨hA.os, hA.tape, hA.output, hA.size, fun i hi _ => hA.block i hi⟩
  have HX0 : Hid ((w.alloc (.cells #[.slice none 0 0, .string ⟨#[]⟩, .int .i64 0] 33)).heap[w.heap.size]? = some (.cells #[.slice none 0 0, .string ⟨#[]⟩, .int .i64 0] 33 (0, 0))) := heap_alloc_new w _
  have hz : w.heap.size < (w.alloc (.cells #[.slice none 0 0, .string ⟨#[]⟩, .int .i64 0] 33)).heap.size := by simp
  have HL := Lib.hid hL
  clear h hL hB hA
  go_enter Tryd.func35, Tryd.ntmps35
  go_wp2_with fail
  generalize hwA : w.alloc (.cells #[.slice none 0 0, .string ⟨#[]⟩, .int .i64 0] 33) = wA at *
  generalize hgx : w.heap.size = g0 at *
  refine K.out.mono ?_
  rintro e w1 ⟨hg1, ⟨hn, he⟩ | ⟨l, q1, g, cap, hq1, hx, hl1, hl2, hlq, hp, rfl, hown, hgb, hr1⟩⟩
  · unfold Fell at he
    subst he
    have HGf := Lib.hid (grown_trans HA.out hg1)
    have HN := Lib.hid hn
    clear hg1 hn K
    go_wp2
    refine ⟨rfl, HGf.out, Or.inl ⟨Lib.hid ?_, rfl⟩⟩
    unfold rdTrip; rw [HN.out.out]; rfl
  have HP1 := Lib.hid hp.out
  have HXs := Lib.hid hx
  have HG1 := Lib.hid (grown_trans HA.out hg1)
  have HX1 := Lib.hid ((grown_block hg1 hz (by omega)).trans HX0.out)
  have hB1 := own_below HB.out hb hg1
  have hz1 : g0 < w1.heap.size := Nat.lt_of_lt_of_le hz hg1.size
  have HO1 := Lib.hid (own_mono hown (Nat.le_of_lt hz))
  have hgg := (hown.lt g rfl).1
  have N1 := Lib.hid (needC 47 47 rfl b s q1 w1 hr1 hs)
  have HB1 := Lib.hid hB1
  have hq1s := hr1.le
  clear hp hx hg1 hB1 hown hr1 K HX0 HA HB
  go_wp2_with fail
  refine N1.out.mono ?_
  rintro e w2 ⟨hg2, ⟨hn2, he⟩ | ⟨hn2, rfl, hr2⟩⟩
  · unfold Fell at he
    subst he
    have HGf := Lib.hid (grown_trans HG1.out hg2)
    have HN := Lib.hid hn2
    clear hg2 hn2
    go_wp2
    refine ⟨rfl, HGf.out, Or.inl ⟨Lib.hid ?_, rfl⟩⟩
    unfold rdTrip; rw [HP1.out, Option.bind_some, HN.out]; rfl
  have HN2 := Lib.hid hn2
  have HG2 := Lib.hid (grown_trans HG1.out hg2)
  have HX2 := Lib.hid ((grown_block hg2 hz1 (by omega)).trans HX1.out)
  have hB2 := own_below HB1.out hb hg2
  have hz2 : g0 < w2.heap.size := Nat.lt_of_lt_of_le hz1 hg2.size
  have HO2 := Lib.hid (HO1.out.kept hg2 (Or.inr (by simp [Value.ownBlock]; omega)))
  have W2 := Lib.hid (nameC b s (q1 + 1) w2 hr2 hs)
  have HB2 := Lib.hid hB2
  have hq2s := hr2.le
  clear hn2 hg2 hB2 hr2 N1 HX1 HG1 HB1 HO1
  go_wp2_with fail
  refine W2.out.mono ?_
  rintro e w3 ⟨hg3, ⟨hn3, he⟩ | ⟨f, q3, hq3, hfz, hp3, rfl, hr3⟩⟩
  · exact absurd hn3.out (by unfold rdWord; simp)
  have HF3 : Hid (f = ⟨(runOf letS (restB s (q1 + 1))).toArray⟩ ∧ restB s q3 = offOf letS (restB s (q1 + 1))) := by
    have := hp3.out
    unfold rdWord at this
    injection this with this
    injection this with a1 a2
    exact ⟨a1.symm, a2.symm⟩
  have HG3 := Lib.hid (grown_trans HG2.out hg3)
  have HX3 := Lib.hid ((grown_block hg3 hz2 (by omega)).trans HX2.out)
  have hB3 := own_below HB2.out hb hg3
  have hz3 : g0 < w3.heap.size := Nat.lt_of_lt_of_le hz2 hg3.size
  have HO3 := Lib.hid (HO2.out.kept hg3 (Or.inr (by simp [Value.ownBlock]; omega)))
  have N3 := Lib.hid (needC 47 47 rfl b s q3 w3 hr3 hs)
  have HB3 := Lib.hid hB3
  clear hp3 hg3 hB3 hr3 W2 HX2 HG2 HB2 HO2
  go_wp2_with fail
  refine N3.out.mono ?_
  rintro e w4 ⟨hg4, ⟨hn4, he⟩ | ⟨hn4, rfl, hr4⟩⟩
  · unfold Fell at he
    subst he
    have HGf := Lib.hid (grown_trans HG3.out hg4)
    have HN := Lib.hid hn4
    clear hg4 hn4
    go_wp2
    refine ⟨rfl, HGf.out, Or.inl ⟨Lib.hid ?_, rfl⟩⟩
    unfold rdTrip; rw [HP1.out, Option.bind_some, HN2.out, Option.bind_some, ← HF3.out.2, HN.out]; rfl
  have HN4 := Lib.hid hn4
  have HG4 := Lib.hid (grown_trans HG3.out hg4)
  have HX4 := Lib.hid ((grown_block hg4 hz3 (by omega)).trans HX3.out)
  have hB4 := own_below HB3.out hb hg4
  have hz4 : g0 < w4.heap.size := Nat.lt_of_lt_of_le hz3 hg4.size
  have HO4 := Lib.hid (HO3.out.kept hg4 (Or.inr (by simp [Value.ownBlock]; omega)))
  have N4 := Lib.hid (numberC w0 b s (q3 + 1) w4 hr4 hs HL.out hB4 hb)
  clear hn4 hg4 hB4 hr4 N3 HX3 HG3 HB3 HO3
  go_wp2_with fail
  refine N4.out.mono ?_
  rintro e w5 ⟨hg5, ⟨hn5, he⟩ | ⟨n, q5, hq5, hp5, rfl, hr5⟩⟩
  · unfold Fell at he
    subst he
    have HGf := Lib.hid (grown_trans HG4.out hg5)
    have HN := Lib.hid hn5.out
    clear hg5 hn5
    go_wp2
    refine ⟨rfl, HGf.out, Or.inl ⟨Lib.hid ?_, rfl⟩⟩
    unfold rdTrip; rw [HP1.out, Option.bind_some, HN2.out, Option.bind_some, ← HF3.out.2, HN4.out, Option.bind_some, HN.out]; rfl
  have HPT : Hid (rdTrip (restB s p) = some ((l, f, n), restB s q5)) := by
    show _ = _
    unfold rdTrip; rw [HP1.out, Option.bind_some, HN2.out, Option.bind_some, ← HF3.out.2, HN4.out, Option.bind_some, hp5.out, Option.bind_some, ← HF3.out.1]
  have HG5 := Lib.hid (grown_trans HG4.out hg5)
  have HX5 := Lib.hid ((grown_block hg5 hz4 (by omega)).trans HX4.out)
  have HO5 := Lib.hid (HO4.out.kept hg5 (Or.inr (by simp [Value.ownBlock]; omega)))
  have HR5 := Lib.hid hr5
  clear hp5 hg5 hr5 N4 HX4 HG4 HO4
  go_wp2_with (first
    | (refine wpList_store_row rfl 33 _ _ rfl g0 #[.slice (some ⟨g, 0, none⟩) l.length cap, .string f, .int .i64 n] rfl rfl 33 #[.slice none 0 0, .string ⟨#[]⟩, .int .i64 0] HX5.out tripSize rfl (trip_one' _ _ _ rfl rfl rfl) ?_)
    | fail)
  have hB6 : w5.grownBy (w5.setRow g0 #[.slice (some ⟨g, 0, none⟩) l.length cap, .string f, .int .i64 n]) (some g0) := grown_setRow _ _ _
  have y6 := tripCells (setRow_heap _ g0 _ #[.slice (some ⟨g, 0, none⟩) l.length cap, .string f, .int .i64 n] _ _ HX5.out)
  have hgb0 : g0 ≠ b := by omega
  have hR6 := HR5.out.grown hB6 hgb0
  have hO6 := HO5.out.kept hB6 (Or.inr (by simp [Value.ownBlock]; omega))
  have hG6 : w.grownBy (w5.setRow g0 #[.slice (some ⟨g, 0, none⟩) l.length cap, .string f, .int .i64 n]) (some b) := grown_own HG5.out hB6 (by omega)
  generalize w5.setRow g0 #[.slice (some ⟨g, 0, none⟩) l.length cap, .string f, .int .i64 n] = w6 at *
  obtain ⟨y0, y1, y2⟩ := y6
  (try simp only [Exit.inBlock, Exit.then])
  refine bodyPost_ret (v := .agg #[.slice (some ⟨g, 0, none⟩) l.length cap, .string f, .int .i64 n]) ?_ rfl ⟨hG6, Or.inr ⟨l, f, n, q5, g, cap, HPT, hl1, by omega, HXs.out, hfz, rfl, by rw [hgx]; exact hO6, hR6⟩⟩
  rw [results_cell1 rfl]
  go_simp
end Go.Proofs.YtlfmhhdlandcjaaDoor
