/-
  A copy of a net, in memory of its own.
-/
import Derived.Test.YtjlfbcplocjemaaNetHelp
namespace Go.Proofs.Ytjlfbcplocjemaa
open Go.RowKit
set_option linter.unusedVariables false
set_option linter.unusedSimpArgs false

/-- Values are laid one behind the other, into a list and into a block. -/
def putL : List Value → Nat → List Value → List Value
  | xs, _, [] => xs
  | xs, o, v :: vs => putL (xs.set o v) (o + 1) vs
def setL : World → Nat → Nat → List Value → World
  | W, _, _, [] => W
  | W, g, o, v :: vs => setL (W.setCell ⟨g, o, none⟩ v) g (o + 1) vs
theorem putL_len : ∀ (vs xs : List Value) (o : Nat), (putL xs o vs).length = xs.length
  | [], xs, o => rfl
  | v :: vs, xs, o => by rw [putL, putL_len vs]; simp
theorem putL_ne : ∀ (vs xs : List Value) (o i : Nat), (i < o ∨ o + vs.length ≤ i) → (putL xs o vs)[i]? = xs[i]?
  | [], xs, o, i, h => rfl
  | v :: vs, xs, o, i, h => by
    rw [putL, putL_ne vs _ (o + 1) i (by simp at h; omega), List.getElem?_set_ne (by simp at h; omega)]
theorem putL_at : ∀ (vs xs : List Value) (o m : Nat), m < vs.length → o + vs.length ≤ xs.length → (putL xs o vs)[o + m]? = vs[m]?
  | [], xs, o, m, h, _ => by simp at h
  | v :: vs, xs, o, 0, h, hl => by
    rw [putL, putL_ne vs _ (o + 1) (o + 0) (by omega), Nat.add_zero, List.getElem?_set_self (by simp at hl; omega)]
    rfl
  | v :: vs, xs, o, m + 1, h, hl => by
    have e : o + (m + 1) = o + 1 + m := by omega
    rw [putL, e, putL_at vs _ (o + 1) m (by simpa using h) (by simp at hl ⊢; omega)]
    rfl
theorem own_setL {base T size cap n g : Nat} : ∀ (vs : List Value) (o : Nat) (W : World) (xs : List Value), W.ownsRow base T size (.slice (some ⟨g, 0, none⟩) n cap) n xs → (setL W g o vs).ownsRow base T size (.slice (some ⟨g, 0, none⟩) n cap) n (putL xs o vs)
  | [], o, W, xs, h => h
  | v :: vs, o, W, xs, h => own_setL vs (o + 1) _ _ (h.stored o v).1
theorem below_setL {B g : Nat} {a : World} (hg : B ≤ g) : ∀ (vs : List Value) (o : Nat) (W : World), Below B a W → Below B a (setL W g o vs)
  | [], o, W, h => h
  | v :: vs, o, W, h => below_setL hg vs (o + 1) _ (h.setCell (p := ⟨g, o, none⟩) hg _)
theorem grown_setL {g : Nat} : ∀ (vs : List Value) (o : Nat) (W : World), W.grownBy (setL W g o vs) (some g)
  | [], o, W => ⟨rfl, rfl, rfl, Nat.le_refl _, fun _ _ _ => rfl⟩
  | v :: vs, o, W => grown_trans (grown_set W ⟨g, o, none⟩ v) (grown_setL vs (o + 1) _)
theorem infoLegF : (Try.prog.info? 34).map (fun i => (i.zero, i.size, i.bytes)) = some (some (.agg #[.string ⟨#[]⟩, .string ⟨#[]⟩, .string ⟨#[]⟩, .int .i64 0, .int .i64 0, .int .i64 0, .slice none 0 0, .slice none 0 0, .slice none 0 0, .slice none 0 0]), 10, 168) := by kernel_rfl
def Caps (d : LegD) (p : LegP) : Prop := d.nL ≤ p.cL ∧ d.nS ≤ p.cS ∧ d.nB ≤ p.cB ∧ d.nH ≤ p.cH
def CopyNet (n : Nat) (ds : Nat → LegD) (w : World) (e : Ending) (w' : World) : Prop := ∃ (g : Nat) (qs : Nat → LegP), w.heap.size ≤ g ∧ e = .returned (.slice (some ⟨g, 0, none⟩) n n) ∧ Legs w' (some ⟨g, 0, none⟩) n ds qs ∧ (∀ i, i < n → Caps (ds i) (qs i)) ∧ Below w.heap.size w w'
def Done10 (g k : Nat) (ds : Nat → LegD) (qs : Nat → LegP) (xs : List Value) (W : World) : Prop := ∀ j, j < k → (∀ m, m < 10 → xs[j * 10 + m]? = (LegC (ds j) (qs j))[m]?) ∧ LegIn W (ds j) (qs j) ∧ Caps (ds j) (qs j) ∧ Apart g (ds j) (qs j)
set_option maxRecDepth 100000 in
set_option maxHeartbeats 8000000 in
theorem toNet (a : Option Addr) (n cap : Nat) (ds : Nat → LegD) (ps : Nat → LegP) (w : World) (h : Legs w a n ds ps) (hf : ∀ i, i < n → Fits (ds i)) (hl : n ≤ 1048576) :
    Calls Try.prog 12 #[.slice a n cap] w (CopyNet n ds w) := by
  obtain ⟨i0, hi, hz0, hz1, hz2⟩ := info_parts infoLegF
  have Hc := Lib.hid h
  have HF := Lib.hid hf
  clear h hf
  go_enter Try.func12, Try.ntmps12
  go_wp2_with (at_make; refine wpList_make_full _ rfl _ _ 23 rfl w.heap.size 34 i0 (.agg #[.string ⟨#[]⟩, .string ⟨#[]⟩, .string ⟨#[]⟩, .int .i64 0, .int .i64 0, .int .i64 0, .slice none 0 0, .slice none 0 0, .slice none 0 0, .slice none 0 0]) 10 Try.underlying23 hi hz0 hz1 .i64 .i64 n n n rfl rfl rfl rfl ?_ ?_ ?_ ?_; rw [hz2]; omega; unfold maxLen; omega; exact Nat.le_refl _; intro w1 hown1 hgrow1)
  have hz := hgrow1.size
  have hb1 : Below w.heap.size w w1 := (Below.refl _ _).grown hgrow1 (Nat.le_refl _) (fun k e => by cases e)
  clear hgrow1
  generalize hg : w.heap.size = g at *
  have Hg := Lib.hid hg
  clear hg
  go_loopw [4] (fun i wr => ∃ k : Nat, k ≤ n ∧ i = .int .i64 k ∧ ∃ (xs : List Value) (qs : Nat → LegP), wr.ownsRow g 34 10 (.slice (some ⟨g, 0, none⟩) n n) n xs ∧ Hid (Done10 g k ds qs xs wr) ∧ Below g w wr) (fun i _ => n - (intOf i).toNat)
  case atStart => exact ⟨0, Nat.zero_le _, rfl, _, fun _ => ⟨none, 0, none, 0, none, 0, none, 0⟩, hown1, fun j hj => absurd hj (Nat.not_lt_zero _), hb1⟩
  case round =>
    obtain ⟨k, hk, rfl, xs, qs, hown, hxs, hb⟩ := hrel
    rcases Nat.lt_or_ge k n with hlt | hge
    · rcases Hc.out.kept (by rw [Hg.out]; exact hb) with hc | ⟨b, off, rfl, hbl, hrow⟩
      · omega
      have HR := Lib.hid (hrow k hlt).1
      have HI := Lib.hid (hrow k hlt).2
      have k1 : (k : Int) < n := by omega
      have k0 : (0 : Int) ≤ k := by omega
      have hbw := hown.lt g rfl
      have HOWN := Lib.hid hown
      clear hrow hbl hown
      have y0 := HR.out.c0
      have y1 := HR.out.c1
      have y2 := HR.out.c2
      have y3 := HR.out.c3
      have y4 := HR.out.c4
      have y5 := HR.out.c5
      have y6 := HR.out.c6
      have y7 := HR.out.c7
      have y8 := HR.out.c8
      have y9 := HR.out.c9
      go_wp2_with fail
      refine (toLegO (ds k) (ps k) wr HI.out (HF.out k hlt)).mono ?_
      rintro e w2 ⟨q, rfl, hq, hcq, haq, hb2⟩
      clear y0 y1 y2 y3 y4 y5 y6 y7 y8 y9
      have hown2 := HOWN.out.kept (row := none) ⟨hb2.os, hb2.tape, hb2.output, hb2.size, fun i hi _ => hb2.block i hi⟩ (Or.inr (by simp [Value.ownBlock]))
      have hb3 : Below g w w2 := hb.trans (hb2.mono (by omega))
      have hx := hown2.1
      have HOWN2 := Lib.hid hown2
      have HQ := Lib.hid hq
      have HA := Lib.hid (haq g hbw.2)
      have HB3 := Lib.hid hb3
      have HD : Hid (∀ j, j < k → LegIn w2 (ds j) (qs j)) := fun j hj => (hxs.out j hj).2.1.kept hb2
      obtain ⟨v0, e0⟩ := cell_of (hown2.cellAt (k * 10) (by omega)) (by omega)
      obtain ⟨v1, e1⟩ := cell_of (hown2.cellAt (k * 10 + 1) (by omega)) (by omega)
      obtain ⟨v2, e2⟩ := cell_of (hown2.cellAt (k * 10 + 2) (by omega)) (by omega)
      obtain ⟨v3, e3⟩ := cell_of (hown2.cellAt (k * 10 + 3) (by omega)) (by omega)
      obtain ⟨v4, e4⟩ := cell_of (hown2.cellAt (k * 10 + 4) (by omega)) (by omega)
      obtain ⟨v5, e5⟩ := cell_of (hown2.cellAt (k * 10 + 5) (by omega)) (by omega)
      obtain ⟨v6, e6⟩ := cell_of (hown2.cellAt (k * 10 + 6) (by omega)) (by omega)
      obtain ⟨v7, e7⟩ := cell_of (hown2.cellAt (k * 10 + 7) (by omega)) (by omega)
      obtain ⟨v8, e8⟩ := cell_of (hown2.cellAt (k * 10 + 8) (by omega)) (by omega)
      obtain ⟨v9, e9⟩ := cell_of (hown2.cellAt (k * 10 + 9) (by omega)) (by omega)
      have f0 := hown2.frozenAt (k * 10)
      have f1 := hown2.frozenAt (k * 10 + 1)
      have f2 := hown2.frozenAt (k * 10 + 2)
      have f3 := hown2.frozenAt (k * 10 + 3)
      have f4 := hown2.frozenAt (k * 10 + 4)
      have f5 := hown2.frozenAt (k * 10 + 5)
      have f6 := hown2.frozenAt (k * 10 + 6)
      have f7 := hown2.frozenAt (k * 10 + 7)
      have f8 := hown2.frozenAt (k * 10 + 8)
      have f9 := hown2.frozenAt (k * 10 + 9)
      have hX := Lib.hid hx
      clear hq haq hb2 hb3 hown2 hb hx
      unfold LegV
      go_wp2
      go_roundw
      case rel =>
        refine ⟨k + 1, by omega, by go_num, putL xs (k * 10) (LegC (ds k) q).toList, fun j => if j = k then q else qs j, own_setL (LegC (ds k) q).toList (k * 10) w2 xs HOWN2.out, fun j hj => ?_, below_setL (Nat.le_refl _) (LegC (ds k) q).toList (k * 10) w2 HB3.out⟩
        have hgr := grown_setL (g := g) (LegC (ds k) q).toList (k * 10) w2
        have hlen : (LegC (ds k) q).toList.length = 10 := rfl
        by_cases e : j = k
        · subst e
          simp only [↓reduceIte]
          refine ⟨fun m hm => ?_, HQ.out.apart HA.out hgr, hcq, HA.out⟩
          rw [putL_at _ _ _ _ (by omega) (by have := hX.out; omega)]
          simp
        · simp only [if_neg e]
          have hj' : j < k := by omega
          obtain ⟨h1, -, h3, h4⟩ := hxs.out j hj'
          refine ⟨fun m hm => ?_, (HD.out j hj').apart h4 hgr, h3, h4⟩
          rw [putL_ne _ _ _ _ (by omega)]
          exact h1 m hm
      case measure => simp [intOf]; omega
    · obtain rfl : k = n := by omega
      have hlt := (hown.lt g rfl).2
      have hx := hown.1
      have hpost : Hid (CopyNet k ds w (.returned (.slice (some ⟨g, 0, none⟩) k k)) wr) := ⟨g, qs, by rw [Hg.out]; exact Nat.le_refl _, rfl, .inr ⟨g, 0, rfl, hlt, fun i hi => ⟨fun m hm => by rw [Nat.zero_add, hown.cellAt (i * 10 + m) (by omega)]; exact (hxs.out i hi).1 m hm, (hxs.out i hi).2.1⟩⟩, fun i hi => (hxs.out i hi).2.2.1, by rw [Hg.out]; exact hb⟩
      clear hlt hx hown hxs hb
      go_wp2
      go_ret
      exact hpost.out
end Go.Proofs.Ytjlfbcplocjemaa
