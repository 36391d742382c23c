/-
  A trip's text: the program's answer and the model's.
-/
import Derived.Test.YtlfmhhdlandcjaaDoorTripFormR
import Derived.Test.YtlfmhhdlandcjaaDoorItoaN
import Derived.Lib.QuietBelow
namespace Go.Proofs.YtlfmhhdlandcjaaDoor
open Go.RowKit
set_option linter.unusedVariables false
set_option linter.unusedSimpArgs false

def WritePost (ss : List ByteArray) (f : ByteArray) (n : Int) (w : World) (e : Ending) (w' : World) : Prop := ∃ o : ByteArray, e = .returned (.string o) ∧ Hid (TripIs ss f n o) ∧ Below w.heap.size w w'
theorem btt {a b c : World} (h : Below a.heap.size a b) (k : Below b.heap.size b c) : Below a.heap.size a c := h.trans (k.mono h.size)
theorem legs_small {ss : List ByteArray} {f : ByteArray} {n : Int} (h : FormOk ss f n) : (∀ x ∈ ss, x.size ≤ 8) ∧ f.size ≤ 8 := by
  refine ⟨fun x hx => ?_, nameB_size h.2.2.2.1⟩
  obtain ⟨i, hi, rfl⟩ := List.mem_iff_getElem.1 hx
  have := (h.2.2.1 i hi).1
  have e : legAt ss i = ss[i] := by simp [legAt, hi]
  rw [e] at this
  exact nameB_size this

set_option maxHeartbeats 8000000 in
theorem writeI (a : Option Addr) (cap : Nat) (ss : List ByteArray) (f : ByteArray) (n : Int) (w : World) (h : Strs w a ss.length ss) (hc : ss.length ≤ cap) (hl : ss.length ≤ 1048576) (hss : ∀ i, i < ss.length → (legAt ss i).size ≤ 1048576) (hf : f.size ≤ 1048576) (hL : Laid w) :
    Calls Tryd.prog 36 #[.agg #[.slice a ss.length cap, .string f, .int .i64 n]] w (WritePost ss f n w) := by
  have hbA : Below w.heap.size w (w.alloc (.cells #[.slice a ss.length cap, .string f, .int .i64 n] 33)) := (Below.refl _ _).alloc (Nat.le_refl _) _
  have HbA := Lib.hid hbA
  have H := Lib.hid h
  have Hss := Lib.hid hss
  have HL := Lib.hid hL
  clear h hss hL hbA
  go_enter Tryd.func36, Tryd.ntmps36
  go_wp2_with fail
  refine (formI a cap ss f n _ (H.out.kept HbA.out) hc hl Hss.out hf).mono ?_
  rintro e w1 ⟨b, rfl, hb, d1⟩
  have hb1 : Below w.heap.size w w1 := btt HbA.out d1
  cases b with
  | false =>
    have hno : Hid (¬ FormOk ss f n) := fun h => by have := hb.out.2 h; cases this
    go_wp2
    go_ret
    exact ⟨_, rfl, Or.inr ⟨hno.out, rfl⟩, hb1⟩
  | true =>
    have hok := Lib.hid (hb.out.1 rfl)
    have Hb1 := Lib.hid hb1
    obtain ⟨bk, off, rfl, hbl, hcell⟩ := (H.out.kept hb1).cells hok.out.1
    have Hcell := Lib.hid hcell
    have hjl := joinL_len ss (legs_small hok.out).1
    have hfs := (legs_small hok.out).2
    have h3 := hok.out.2.1
    have n1 := hok.out.2.2.2.2.1
    have n4 := hok.out.2.2.2.2.2
    have hA : (w.alloc (.cells #[.slice (some ⟨bk, off, none⟩) ss.length cap, .string f, .int .i64 n] 33)).heap[w.heap.size]? = some (.cells #[.slice (some ⟨bk, off, none⟩) ss.length cap, .string f, .int .i64 n] 33 (0, 0)) := heap_alloc_new w _
    have hA1 := (d1.block _ (by simp)).trans hA
    have sz1 : w.heap.size < w1.heap.size := lt_heap hA1
    have c0 : w1.cell? ⟨w.heap.size, 0, none⟩ = some (.slice (some ⟨bk, off, none⟩) ss.length cap) := by rw [Lib.cell_of_heap hA1]; rfl
    have c1 : w1.cell? ⟨w.heap.size, 1, none⟩ = some (.string f) := by rw [Lib.cell_of_heap hA1]; rfl
    have c2 : w1.cell? ⟨w.heap.size, 2, none⟩ = some (.int .i64 n) := by rw [Lib.cell_of_heap hA1]; rfl
    have JOIN : Hid (∀ W, Below w1.heap.size w1 W → Calls Tryd.prog 27 #[.slice (some ⟨bk, off, none⟩) ss.length cap, .string ⟨#[45]⟩] W fun e w' => e = .returned (.string ⟨(joinL ss).toArray⟩) ∧ Below W.heap.size W w') := fun W hW =>
      Tryd.strings_Join bk off cap ss ⟨#[45]⟩ W (fun j x hj => by
        have hjl : j < ss.length := (List.getElem?_eq_some_iff.1 hj).1
        have := (hW.cell (p := ⟨bk, off + j, none⟩) hbl).trans (Hcell.out j hjl)
        have e : legAt ss j = x := by simp [legAt, hj]
        rw [e] at this; exact this) (Nat.lt_of_lt_of_le hbl hW.size) (by omega) hc (by show (joinL ss).length ≤ _; omega)
    have hJz : (⟨(joinL ss).toArray⟩ : ByteArray).size ≤ 27 := by show (joinL ss).toArray.size ≤ 27; rw [List.size_toArray]; omega
    generalize hJ : (⟨(joinL ss).toArray⟩ : ByteArray) = J at *
    have HJ := Lib.hid hJ
    have LW := Lib.hid (fun W (k : Below w1.heap.size w1 W) => laid_stays HL.out (btt hb1 k))
    clear hcell hb hA hA1 hJ hb1 d1 hjl
    have cJ : ∀ dd os, Calls Tryd.prog 27 #[.slice (some ⟨bk, off, none⟩) ss.length cap, .string ⟨#[45]⟩] (Go.Sort.grow (redrawn w1 dd) os) fun e w'' => e = .returned (.string J) ∧ ∃ p : Regrown, w'' = Go.Sort.grow (redrawn w1 p.d) p.os := fun dd os => Calls.regrown_of (JOIN.out _ (below_regrown w1 dd os))
    have hso : (⟨(Lib.decDigits n.toNat).toArray⟩ : ByteArray).size ≤ 20 := by
      have := dec_len n.toNat (by omega)
      simpa [ByteArray.size] using this
    generalize hS : (⟨(Lib.decDigits n.toNat).toArray⟩ : ByteArray) = S at *
    have HS := Lib.hid hS
    clear hS
    have cI : ∀ dd os, Calls Tryd.prog 26 #[.int .i64 n] (Go.Sort.grow (redrawn w1 dd) os) fun e w'' => e = .returned (.string S) ∧ ∃ p : Regrown, w'' = Go.Sort.grow (redrawn w1 p.d) p.os := fun dd os => Calls.regrown_of ((itoaS n _ (LW.out _ (below_regrown w1 dd os)) (by omega) (by omega)).mono (fun e w3 ⟨s3, h1, hl3, he3, hb3, _⟩ => ⟨by
      rw [h1, he3.out, HS.out], hb3⟩))
    have k0 := cell_regrown c0
    have k1 := cell_regrown c1
    have k2 := cell_regrown c2
    have m1 : ¬ 9223372036854775807 < J.size + 1 := by omega
    have m2 : ¬ 9223372036854775807 < J.size + 1 + f.size := by omega
    have m3 : ¬ 9223372036854775807 < J.size + 1 + f.size + 1 := by omega
    have m4 : ¬ 9223372036854775807 < J.size + 1 + f.size + 1 + S.size := by omega
    clear JOIN LW c0 c1 c2
    go_wp2_with fail
    refine wp_region_quiet_below (by kernel_rfl) (by kernel_rfl) ?_
    repeat (quiet_step (first | exact cJ _ _ | exact cI _ _))
    refine wpQuiet_nil ?_
    intro _ hw'
    obtain ⟨⟨dq, osq⟩, hw''⟩ := hw'
    subst hw''
    go_wp2
    go_ret
    refine ⟨_, rfl, Or.inl ⟨hok.out, ?_⟩, btt Hb1.out (below_regrown w1 dq osq)⟩
    rw [← HJ.out, ← HS.out]
    apply ByteArray.ext
    simp [tripT]
end Go.Proofs.YtlfmhhdlandcjaaDoor
