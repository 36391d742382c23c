/-
  How the program shares an amount out.
-/
import Derived.Test.YtnhniglldkmanaaSortCall
import Derived.Test.YtnhniglldkmanaaMoneyPart
import Derived.RegionTactic
import Derived.ChangeAlike
namespace Go.Proofs.Ytnhniglldkmanaa
open Go.RowKit
set_option linter.unusedVariables false

theorem upto_set (q : Nat → Int) (k i : Nat) (v : Int) (hv : q k = v) : (if i < k + 1 then q i else 0) = if i = k then v else (if i < k then q i else 0) := by
  by_cases e : i = k
  · subst e; rw [if_pos (by omega), if_pos rfl, hv]
  · rw [if_neg e]
    by_cases e2 : i < k
    · rw [if_pos (by omega), if_pos e2]
    · rw [if_neg (by omega), if_neg e2]
theorem cell_far {w : World} {a p : Addr} {u v : Value} (h : w.cell? a = some v) (ne : a.block ≠ p.block) : (w.setCell p u).cell? a = some v :=
  (World.cell?_of_block (Below.heap_setCell w p u a.block ne)).trans h
theorem belowG {w w' : World} (h : w.grownBy w' none) : Below w.heap.size w w' := (Below.refl _ _).grown h (Nat.le_refl _) (fun k e => by cases e)
theorem NumsO.kept {w w' : World} {g n : Nat} {f : Nat → Int} (h : NumsO w g n f) (hb : Below w.heap.size w w') : NumsO w' g n f :=
  ⟨Nat.lt_of_lt_of_le h.1 hb.size, fun i hi => ⟨(hb.cell (p := ⟨g, i, none⟩) h.1).trans (h.2 i hi).1, (hb.frozen (p := ⟨g, i, none⟩) h.1).trans (h.2 i hi).2⟩⟩
theorem numsO_made {w : World} {B g n : Nat} (h : w.ownsRow B 3 1 (.slice (some ⟨g, 0, none⟩) n n) n (madeCells (Value.int IntKind.i64 0).cells (n * 1)).toList) : NumsO w g n (fun _ => 0) := by
  have e : (madeCells (Value.int IntKind.i64 0).cells (n * 1)).toList = (List.range n).map fun _ => Value.int .i64 0 := by
    rw [Nat.mul_one]
    have : (Value.int IntKind.i64 0).cells = #[.int .i64 0] := rfl
    rw [this, toList_madeCells_one]
    apply List.ext_getElem? ; intro i; simp [List.getElem?_replicate]
    split <;> simp_all
  rw [e] at h
  exact numsO_own h

set_option maxHeartbeats 2000000 in
theorem implShares (A s : Int) (a : Option Addr) (n cap : Nat) (z : Nat → Int) (w : World) (h : Nums w a n z) (hw : WOk z n) (hs : s = sumF z n) (s0 : 0 < s) (A0 : 0 ≤ A) (A1 : A ≤ 1000000000000) :
    Calls Try.prog 22 #[.int .i64 A, .slice a n cap, .int .i64 s] w fun e w' => ∃ R, InOrder n (shR A z s) R ∧ SPost n (outAt (shQ A z s) R (restF A z s n).toNat) w e w' := by
  obtain ⟨n8, hz, s1⟩ := hw
  rw [← hs] at s1
  obtain ⟨r0, r1⟩ := rest_bd (A := A) s0 hs
  have Hs := Lib.hid hs
  have Hz := Lib.hid hz
  have HN := Lib.hid h
  clear hs hz h
  obtain ⟨i0, hi, hz0, hz1, hz2⟩ := info_parts infoInt
  go_enter Try.func22, Try.ntmps22
  go_wp2_with (at_make; first
    | (have hx := hown2; refine wpList_make_full _ rfl _ _ 23 rfl w.heap.size 3 i0 (.int .i64 0) 1 Try.underlying23 hi hz0 hz1 .i64 .i64 n n n rfl rfl rfl rfl ?_ ?_ ?_ ?_; rw [hz2]; omega; unfold maxLen; omega; (simp only [World.size_alloc]; omega); intro w3 hown3 hgrow3; have hs3 := hgrow3.size; simp only [World.size_alloc] at hs3)
    | (have hx := hown1; refine wpList_make_full _ rfl _ _ 23 rfl w.heap.size 3 i0 (.int .i64 0) 1 Try.underlying23 hi hz0 hz1 .i64 .i64 n n n rfl rfl rfl rfl ?_ ?_ ?_ ?_; rw [hz2]; omega; unfold maxLen; omega; omega; intro w2 hown2 hgrow2; have hs2 := hgrow2.size)
    | (refine wpList_make_full _ rfl _ _ 23 rfl w.heap.size 3 i0 (.int .i64 0) 1 Try.underlying23 hi hz0 hz1 .i64 .i64 n n n rfl rfl rfl rfl ?_ ?_ ?_ ?_; rw [hz2]; omega; unfold maxLen; omega; exact Nat.le_refl _; intro w1 hown1 hgrow1; have hs1 := hgrow1.size))
  have l1 := (hown1.lt w.heap.size rfl).2
  have l2 := (hown2.lt w1.heap.size rfl).2
  have l3 := (hown3.lt (w2.heap.size + 1) (by simp [Value.ownBlock])).2
  have g1 : NumsO w1 w.heap.size n (fun _ => 0) := numsO_made hown1
  have g2 : NumsO w2 w1.heap.size n (fun _ => 0) := numsO_made hown2
  have g3 : NumsO w3 (w2.heap.size + 1) n (fun _ => 0) := numsO_made (by simpa using hown3)
  have b12 := belowG hgrow2
  have b2a := (Below.refl w2.heap.size w2).alloc (Nat.le_refl _) (.cells #[.slice (some ⟨w1.heap.size, 0, none⟩) n n] 23)
  have b23 := belowG hgrow3
  have b3a := (Below.refl w3.heap.size w3).alloc (Nat.le_refl _) (.cells #[.slice (some ⟨w2.heap.size + 1, 0, none⟩) n n] 23)
  have h1 := (((g1.kept b12).kept b2a).kept b23).kept b3a
  have h2 := ((g2.kept b2a).kept b23).kept b3a
  have h3 := g3.kept b3a
  have x1 : (w3.alloc (.cells #[.slice (some ⟨w2.heap.size + 1, 0, none⟩) n n] 23)).cell? ⟨w2.heap.size, 0, none⟩ = some (.slice (some ⟨w1.heap.size, 0, none⟩) n n) :=
    (b3a.cell (p := ⟨w2.heap.size, 0, none⟩) (by show w2.heap.size < w3.heap.size; omega)).trans ((b23.cell (p := ⟨w2.heap.size, 0, none⟩) (by simp)).trans (by simp))
  have x2 : (w3.alloc (.cells #[.slice (some ⟨w2.heap.size + 1, 0, none⟩) n n] 23)).cell? ⟨w3.heap.size, 0, none⟩ = some (.slice (some ⟨w2.heap.size + 1, 0, none⟩) n n) := by simp
  have hbS : Below w.heap.size w (w3.alloc (.cells #[.slice (some ⟨w2.heap.size + 1, 0, none⟩) n n] 23)) :=
    ((((Below.refl _ _).trans (belowG hgrow1)).trans (b12.mono hs1)).trans ((b2a.mono (by omega)).trans ((b23.mono (by simp only [World.size_alloc]; omega)).trans (b3a.mono (by omega)))))
  generalize hgl : w1.heap.size = gl at *
  generalize hbl : w2.heap.size = bl at *
  generalize hbo : w3.heap.size = bo at *
  generalize hB : w.heap.size = gs at *
  have HB := Lib.hid hB
  clear hown1 hown2 hown3 hgrow1 hgrow2 hgrow3 g1 g2 g3 b12 b2a b23 b3a hx hs1 hs2 hs3 hgl hbl hbo hB
  go_loopw [27, 10] (fun vi vc wr => ∃ k : Nat, k ≤ n ∧ vi = .int .i64 k ∧ ∃ c : Int, vc = .int .i64 c ∧ Hid (c = A - sumF (shQ A z s) k) ∧ 0 ≤ A - c ∧ A - c ≤ 1000000000000000000 * k ∧
    NumsO wr gs n (fun j => if j < k then shQ A z s j else 0) ∧ NumsO wr gl n (fun j => if j < k then shR A z s j else 0) ∧ NumsO wr (bl + 1) n (fun j => if j < k then (j : Int) else 0) ∧
    wr.cell? ⟨bl, 0, none⟩ = some (.slice (some ⟨gl, 0, none⟩) n n) ∧ wr.cell? ⟨bo, 0, none⟩ = some (.slice (some ⟨bl + 1, 0, none⟩) n n) ∧ Below gs w wr) (fun vi _ _ => n - (intOf vi).toNat)
  case atStart => exact ⟨0, Nat.zero_le _, rfl, A, rfl, by show _ = _; simp [sumF], by omega, by omega, by simpa using h1, by simpa using h2, by simpa using h3, x1, x2, hbS⟩
  case round =>
    obtain ⟨k, hk, rfl, c, rfl, hc, ca, cb, hS, hL, hO, y1, y2, hb⟩ := hrel
    rcases Nat.lt_or_ge k n with hlt | hge
    · rcases HN.out with h | ⟨b, off, rfl, hbw, hcc⟩
      · omega
      have c1 := (hb.cell (p := ⟨b, off + k, none⟩) (by show b < gs; rw [← HB.out]; exact hbw)).trans (hcc k hlt)
      have hbgs : b < gs := by rw [← HB.out]; exact hbw
      clear hcc hbw
      obtain ⟨z0, z1⟩ := Hz.out k hlt
      have t0 : 0 ≤ A * z k := Int.mul_nonneg A0 z0
      have t1 : A * z k ≤ 1000000000000000000 := Int.le_trans (Int.mul_le_mul A1 z1 z0 (by omega)) (by omega)
      have q0 : 0 ≤ A * z k / s := Int.ediv_nonneg t0 (by omega)
      have q1 : A * z k / s ≤ A * z k := Int.ediv_le_self _ t0
      have m0 : 0 ≤ A * z k % s := Int.emod_nonneg _ (by omega)
      have m1 : A * z k % s < s := Int.emod_lt_of_pos _ (by omega)
      have hq : Hid (shQ A z s k = A * z k / s) := rfl
      obtain ⟨d1, f1⟩ := hS.2 k hlt
      obtain ⟨d2, f2⟩ := hL.2 k hlt
      obtain ⟨d3, f3⟩ := hO.2 k hlt
      simp only [Nat.lt_irrefl, if_false] at d1 d2 d3
      have HS := Lib.hid hS
      have HL := Lib.hid hL
      have HO := Lib.hid hO
      have n1 : gs ≠ gl := by omega
      have n2 : gs ≠ bl := by omega
      have n3 : gs ≠ bl + 1 := by omega
      have n4 : gs ≠ bo := by omega
      have n5 : gl ≠ bl := by omega
      have n6 : gl ≠ bl + 1 := by omega
      have n7 : gl ≠ bo := by omega
      have n8' : bl + 1 ≠ bo := by omega
      have e2 : (wr.setCell ⟨gs, k, none⟩ (.int .i64 (A * z k / s))).cell? ⟨gl, k, none⟩ = some (.int .i64 0) := by simp [go_sem, d2]; try omega
      have e3 : (wr.setCell ⟨gs, k, none⟩ (.int .i64 (A * z k / s))).cell? ⟨bl, 0, none⟩ = some (.slice (some ⟨gl, 0, none⟩) n n) := by simp [go_sem, y1]; try omega
      clear hS hL hO
      go_wp2
      go_region
      all_goals
        go_wp2
        go_roundw
        case rel =>
          have hS2 := ((HS.out.set (f' := fun j => if j < k + 1 then shQ A z s j else 0) k hlt (A * z k / s) (fun i _ => upto_set _ k i _ hq.out)).other ⟨gl, k, none⟩ (.int .i64 (A * z k % s)) n1).other ⟨bl + 1, k, none⟩ (.int .i64 k) n3
          have hL2 := ((HL.out.other ⟨gs, k, none⟩ (.int .i64 (A * z k / s)) (fun e => n1 e.symm)).set (f' := fun j => if j < k + 1 then shR A z s j else 0) k hlt (A * z k % s) (fun i _ => upto_set _ k i _ rfl)).other ⟨bl + 1, k, none⟩ (.int .i64 k) n6
          have hO2 := ((HO.out.other ⟨gs, k, none⟩ (.int .i64 (A * z k / s)) (fun e => n3 e.symm)).other ⟨gl, k, none⟩ (.int .i64 (A * z k % s)) (fun e => n6 e.symm)).set (f' := fun j => if j < k + 1 then (j : Int) else 0) k hlt (k : Int) (fun i _ => upto_set (fun j => (j : Int)) k i _ rfl)
          refine ⟨k + 1, hlt, by go_num, c - A * z k / s, rfl, by have := hc.out; have := hq.out; show _ = _; simp only [sumF]; omega, by omega, by omega, hS2.drewN 1, hL2.drewN 1, hO2.drewN 1, ?_, ?_, belowN (((hb.setCell (by show gs ≤ gs; omega) _).setCell (by show gs ≤ gl; omega) _).setCell (by show gs ≤ bl + 1; omega) _) 1⟩
          · exact cell_far (cell_far (cell_far y1 (fun e => n2 e.symm)) (fun e => n5 e.symm)) (by show bl ≠ bl + 1; omega)
          · exact cell_far (cell_far (cell_far y2 (fun e => n4 e.symm)) (fun e => n7 e.symm)) (fun e => n8' e.symm)
        case measure => simp [intOf]; omega
    · obtain rfl : k = n := by omega
      have hn0 : 0 < k := by
        rcases Nat.eq_zero_or_pos k with h | h
        · have := Hs.out; rw [h] at this; simp [sumF] at this; omega
        · exact h
      have hc2 : c = restF A z s k := hc.out
      have c0 : 0 ≤ c := by rw [hc2]; exact r0
      have c3 : c < k := by rw [hc2]; exact r1 hn0
      have HC := Lib.hid hc2
      have hS' : NumsO wr gs k (shQ A z s) := ⟨hS.1, fun i hi => by have := hS.2 i hi; simpa [hi] using this⟩
      have hL' : NumsO wr gl k (shR A z s) := ⟨hL.1, fun i hi => by have := hL.2 i hi; simpa [hi] using this⟩
      have hO' : NumsO wr (bl + 1) k (fun j => (j : Int)) := ⟨hO.1, fun i hi => by have := hO.2 i hi; simpa [hi] using this⟩
      have hb1 := World.block_lt_of_cell? wr _ y1
      have hb2 := World.block_lt_of_cell? wr _ y2
      have HS := Lib.hid hS'
      have HL := Lib.hid hL'
      have HO := Lib.hid hO'
      clear hS hL hO hS' hL' hO' hc hc2 r0 r1 ca cb h1 h2 h3 x1 x2 hbS
      obtain ⟨c', rfl⟩ := Int.eq_ofNat_of_zero_le c0
      go_wp2_with fail
      refine (sortPlaces k bl bo gl (bl + 1) (shR A z s) _ hn0 n8 y1 y2 HO.out HL.out (by omega) (by omega) (by omega) hb1 hb2).mono ?_
      rintro e wt ⟨rfl, R, hR, hoc, hgt⟩
      have HR := Lib.hid hR
      have HOC := Lib.hid hoc
      have hbt : Below gs w wt := hb.grown hgt (by omega) (fun q e => by simp at e; omega)
      have y2t : wt.cell? ⟨bo, 0, none⟩ = some (.slice (some ⟨bl + 1, 0, none⟩) k k) := hgt.cell y2 (by simp; omega)
      have hSt : NumsO wt gs k (outAt (shQ A z s) R 0) := ⟨Nat.lt_of_lt_of_le HS.out.1 hgt.size, fun i hi => by
        have := HS.out.2 i hi
        have e1 := hgt.block gs HS.out.1 (by simp; omega)
        refine ⟨?_, (World.frozen?_of_block (a := ⟨gs, i, none⟩) e1).trans this.2⟩
        rw [World.cell?_of_block (a := ⟨gs, i, none⟩) e1, this.1]
        simp [outAt, got]⟩
      have hlt := HOC.out
      have hbo : bl + 1 < wt.heap.size := by have := HO.out.1; have := hgt.size; omega
      clear hR hoc
      have ck : c' < k := by omega
      go_wp2_with fail
      go_loopw [67] (fun vi wr => ∃ t : Nat, t ≤ c' ∧ vi = .int .i64 t ∧ NumsO wr gs k (outAt (shQ A z s) R t) ∧ Hid (∀ i, i < k → wr.cell? ⟨bl + 1, i, none⟩ = some (.int .i64 (R i : Int))) ∧ Below gs w wr) (fun vi _ => c' - (intOf vi).toNat)
      case atStart => exact ⟨0, Nat.zero_le _, rfl, hSt, hlt, hbt⟩
      case round =>
        obtain ⟨t, ht, rfl, hS, hoc, hbx⟩ := hrel
        rcases Nat.lt_or_ge t c' with hlt2 | hge2
        · have htk : t < k := by omega
          have hRk := HR.out.lt t htk
          have d1 := hoc.out t htk
          obtain ⟨d2, f2⟩ := hS.2 (R t) hRk
          have HSx := Lib.hid hS
          have v0 : 0 ≤ outAt (shQ A z s) R t (R t) := by
            have : 0 ≤ shQ A z s (R t) := Int.ediv_nonneg (Int.mul_nonneg A0 (Hz.out _ hRk).1) (by omega)
            unfold outAt; split <;> omega
          have v1 : outAt (shQ A z s) R t (R t) ≤ 1000000000000000001 := by
            have t0 : 0 ≤ A * z (R t) := Int.mul_nonneg A0 (Hz.out _ hRk).1
            have t1 : A * z (R t) ≤ 1000000000000000000 := Int.le_trans (Int.mul_le_mul A1 (Hz.out _ hRk).2 (Hz.out _ hRk).1 (by omega)) (by omega)
            have : shQ A z s (R t) ≤ A * z (R t) := Int.ediv_le_self _ t0
            unfold outAt; split <;> omega
          have hv : Hid (∀ i, outAt (shQ A z s) R (t + 1) i = if i = R t then outAt (shQ A z s) R t (R t) + 1 else outAt (shQ A z s) R t i) := fun i => by
            rw [out_step HR.out htk]
            by_cases e : i = R t
            · rw [if_pos e, if_pos e, e]
            · rw [if_neg e, if_neg e]
          have hS2 := Lib.hid (fun x (hx : x = outAt (shQ A z s) R t (R t) + 1) => HSx.out.set (f' := outAt (shQ A z s) R (t + 1)) (R t) hRk x (fun i _ => by rw [hx]; exact hv.out i))
          have hoc2 := Lib.hid (fun (x : Value) (i : Nat) (hi : i < k) => cell_far (p := ⟨gs, R t, none⟩) (u := x) (hoc.out i hi) (by show bl + 1 ≠ gs; omega))
          have r1 : ((R t : Nat) : Int) < k := by omega
          have r2 : (0 : Int) ≤ (R t : Nat) := by omega
          have hb3 := Lib.hid (fun (x : Value) => hbx.setCell (p := ⟨gs, R t, none⟩) (by show gs ≤ gs; omega) x)
          generalize outAt (shQ A z s) R t (R t) = x at *
          generalize R t = rt at *
          clear hS
          go_wp2
          go_roundw
          case rel => exact ⟨t + 1, by omega, by go_num, hS2.out _ rfl, hoc2.out _, hb3.out _⟩
          case measure => simp [intOf]; omega
        · obtain rfl : t = c' := by omega
          have e2 : t = (restF A z s k).toNat := by rw [← HC.out]; omega
          clear hoc
          go_wp2
          go_ret
          exact ⟨R, HR.out, _, k, rfl, by rw [← e2]; exact hS.w (by rw [HB.out]; exact Nat.le_refl _), by rw [HB.out]; exact hbx⟩
end Go.Proofs.Ytnhniglldkmanaa
