/-
  How the model shares an amount out.
-/
import Derived.Test.YtnhniglldkmanaaWeights
import Derived.Deep.DeepMust
import Derived.Deep.AppendLies
namespace Go.Proofs.Ytnhniglldkmanaa
open Go.RowKit
set_option linter.unusedVariables false

/-- The block g holds the ints f, and may be written. -/
def NumsO (w : World) (g n : Nat) (f : Nat → Int) : Prop := g < w.heap.size ∧ ∀ i, i < n → w.cell? ⟨g, i, none⟩ = some (.int .i64 (f i)) ∧ w.frozen? ⟨g, i, none⟩ = false
theorem NumsO.set {w : World} {g n : Nat} {f f' : Nat → Int} (h : NumsO w g n f) (k : Nat) (hk : k < n) (v : Int) (hf : ∀ i, i < n → f' i = if i = k then v else f i) : NumsO (w.setCell ⟨g, k, none⟩ (.int .i64 v)) g n f' := by
  refine ⟨by simpa [World.setCell] using h.1, fun i hi => ?_⟩
  obtain ⟨h1, h2⟩ := h.2 i hi
  rw [hf i hi]
  refine ⟨?_, by simpa [go_sem] using h2⟩
  by_cases e : i = k
  · subst e; simp [go_sem, h1]
  · rw [if_neg e]; simp [go_sem, h1]; try omega
theorem NumsO.other {w : World} {g n : Nat} {f : Nat → Int} (h : NumsO w g n f) (p : Addr) (u : Value) (hp : g ≠ p.block) : NumsO (w.setCell p u) g n f := by
  refine ⟨by simpa [World.setCell] using h.1, fun i hi => ?_⟩
  have e := Below.heap_setCell w p u g hp
  exact ⟨(World.cell?_of_block (a := ⟨g, i, none⟩) e).trans (h.2 i hi).1, (World.frozen?_of_block (a := ⟨g, i, none⟩) e).trans (h.2 i hi).2⟩
theorem NumsO.drewN {w : World} {g n : Nat} {f : Nat → Int} (h : NumsO w g n f) (q : Nat) : NumsO (w.drewN q) g n f := ⟨h.1, h.2⟩
theorem numsO_own {w : World} {B g n cap : Nat} {f : Nat → Int} (h : w.ownsRow B 3 1 (.slice (some ⟨g, 0, none⟩) n cap) n ((List.range n).map fun j => .int .i64 (f j))) : NumsO w g n f :=
  ⟨(h.lt g rfl).2, fun i hi => ⟨by rw [h.cellAt i (by omega)]; simp [hi], h.frozenAt i⟩⟩
theorem NumsO.w {w : World} {B g n : Nat} {f : Nat → Int} (h : NumsO w g n f) (hB : B ≤ g) : NumsW B w (some ⟨g, 0, none⟩) n f := Or.inr ⟨g, rfl, hB, h.1, h.2⟩
theorem made_empty (w : World) (B : Nat) (h : B ≤ w.heap.size) : (w.alloc (.cells #[] 3)).ownsRow B 3 1 (.slice (some ⟨w.heap.size, 0, none⟩) 0 0) 0 [] :=
  World.ownsRow_made _ _ _ h (by unfold maxLen; omega) rfl
theorem range_snoc0 (f : Nat → Value) (k : Nat) : (List.range k).map f ++ [f k] = (List.range (k + 1)).map f := by rw [List.range_succ, List.map_append]; rfl
theorem own_range {w : World} {B : Nat} {e : TypeId} {v : Value} {k : Nat} {f : Nat → Value} (h : w.ownsRow B e 1 v (k + 1) ((List.range k).map f ++ [f k])) : w.ownsRow B e 1 v (k + 1) ((List.range (k + 1)).map f) := by
  rw [range_snoc0] at h; exact h
theorem range_snoc (f : Nat → Value) (k : Nat) : (List.range k).map f ++ [f k] = (List.range (k + 1)).map f := by rw [List.range_succ, List.map_append]; rfl

def SPost (n : Nat) (f : Nat → Int) (w : World) (e : Ending) (w' : World) : Prop := ∃ (a : Option Addr) (cap : Nat), e = .returned (.slice a n cap) ∧ NumsW w.heap.size w' a n f ∧ Below w.heap.size w w'

set_option maxHeartbeats 2000000 in
theorem specShare (A s : Int) (a : Option Addr) (n cap : Nat) (z : Nat → Int) (R : Nat → Nat) (w : World) (h : Nums w a n z) (hw : WOk z n) (hs : s = sumF z n) (s0 : 0 < s) (A0 : 0 ≤ A) (A1 : A ≤ 1000000000000) (hR : InOrder n (shR A z s) R) :
    Calls Try.prog 25 #[.int .i64 A, .slice a n cap, .int .i64 s] w (SPost n (outAt (shQ A z s) R (restF A z s n).toNat) w) := by
  obtain ⟨n8, hz, s1⟩ := hw
  rw [← hs] at s1
  obtain ⟨r0, r1⟩ := rest_bd (A := A) s0 hs
  have Hs := Lib.hid hs
  have Hz := Lib.hid hz
  have HR := Lib.hid hR
  have HN := Lib.hid h
  clear hs hz hR h
  obtain ⟨i0, hi, hz0, hz1, hz2⟩ := info_parts infoInt
  go_enter Try.func25, Try.ntmps25
  have hm1 := made_empty (w.alloc (.cells #[] 3)) w.heap.size (by simp)
  have hm0 := (made_empty w w.heap.size (Nat.le_refl _)).alloc (.cells #[] 3)
  have hbm : Below w.heap.size w ((w.alloc (.cells #[] 3)).alloc (.cells #[] 3)) := ((Below.refl _ _).alloc (Nat.le_refl _) _).alloc (by simp) _
  simp only [World.size_alloc] at hm1
  go_wp2_with fail
  go_loopw [7, 8, 9, 10] (fun vo vl vr vi wr => ∃ k : Nat, k ≤ n ∧ vi = .int .i64 k ∧ ∃ ga ca gb cb : Nat, vo = .slice (some ⟨ga, 0, none⟩) k ca ∧ vl = .slice (some ⟨gb, 0, none⟩) k cb ∧ ga ≠ gb ∧ ∃ r : Int, vr = .int .i64 r ∧ Hid (r = A - sumF (shQ A z s) k) ∧ 0 ≤ A - r ∧ A - r ≤ 1000000000000000000 * k ∧
    wr.ownsRow w.heap.size 3 1 (.slice (some ⟨ga, 0, none⟩) k ca) k ((List.range k).map fun j => .int .i64 (shQ A z s j)) ∧ wr.ownsRow w.heap.size 3 1 (.slice (some ⟨gb, 0, none⟩) k cb) k ((List.range k).map fun j => .int .i64 (shR A z s j)) ∧ Below w.heap.size w wr) (fun _ _ _ vi _ => n - (intOf vi).toNat)
  case atStart => exact ⟨0, Nat.zero_le _, rfl, _, _, _, _, rfl, rfl, by omega, A, rfl, by show _ = _; simp [sumF], by omega, by omega, hm0, hm1, hbm⟩
  case round =>
    obtain ⟨k, hk, rfl, ga, ca, gb, cb, rfl, rfl, hne, r, rfl, hr, ra, rb, hoa, hob, hb⟩ := hrel
    have HA := Lib.hid hoa
    have HB := Lib.hid hob
    have la := hoa.lt ga rfl
    have lb := hob.lt gb rfl
    have hbs := hb.size
    clear hoa hob
    rcases Nat.lt_or_ge k n with hlt | hge
    · rcases HN.out with h | ⟨b, off, rfl, hbl, hc⟩
      · omega
      have c0 := hc k hlt
      have c1 := (hb.cell (p := ⟨b, off + k, none⟩) hbl).trans c0
      clear hc
      obtain ⟨z0, z1⟩ := Hz.out k hlt
      have t0 : 0 ≤ A * z k := Int.mul_nonneg A0 z0
      have t1 : A * z k ≤ 1000000000000000000 := Int.le_trans (Int.mul_le_mul A1 z1 z0 (by omega)) (by omega)
      have q0 : 0 ≤ A * z k / s := Int.ediv_nonneg t0 (by omega)
      have q1 : A * z k / s ≤ A * z k := Int.ediv_le_self _ t0
      have m0 : 0 ≤ A * z k % s := Int.emod_nonneg _ (by omega)
      have m1 : A * z k % s < s := Int.emod_lt_of_pos _ (by omega)
      have hq : Hid (shQ A z s k = A * z k / s) := rfl
      go_wp2_with (at_builtin; first | (refine wpList_append_lies ?rw ?r1 ?rs ?rx 23 ?r2 w.heap.size 3 i0 (.int .i64 0) 1 8 ?r3 ?r4 ?r5 ?r6 ?r7 ?r8 ?r9 (.slice (some ⟨gb, 0, none⟩) k cb) k ((List.range k).map fun j => .int .i64 (shR A z s j)) ?r10 ?rh1 ⟨wA.heap.size, 0, none⟩ 1 1 [.int .i64 (A * z k % s)] ?r11 ?r12 ?rh2 ?rh3 ?rc1 ?rc2 ?rc3 ?rc4 (wA.heap.size + 1) ?rc5 ?_; (case r1 => rfl); (case r2 => rfl); (case r10 => rfl); (case r11 => rfl); (case rh1 => exact HB1.out.alloc _); (case r3 => exact Try.underlying23); (case r4 => exact hi); (case r5 => exact hz0); (case r6 => exact hz1); (case r7 => exact hz2); (case r8 => rfl); (case r9 => decide); (case r12 => rfl); (case rh2 => go_must (exact cell_one_new _ _ _)); (case rh3 => go_must (intro u hu; simp at hu; subst hu; rfl)); (case rc1 => decide); (case rc2 => go_must (unfold maxLen; omega)); (case rc3 => go_must (omega)); (case rc4 => go_must (simp only [World.size_alloc]; omega)); (case rc5 => simp only [World.size_alloc]); intro gb2 cb2 wB hownB hgrowB hatB hltB; have hbB := (hbA.alloc (by omega) _).grown hgrowB (by simp only [World.size_alloc]; omega) (fun q e => by simp [Value.ownBlock] at e; omega); have hszB := hgrowB.size; simp only [World.size_alloc] at hszB; have HB2 := Lib.hid (own_range (f := fun j => .int .i64 (shR A z s j)) hownB); have HA3 := Lib.hid ((HA2.out.alloc _).kept hgrowB (Or.inr (by simp [Value.ownBlock]; omega))); have hne3 : ga2 ≠ gb2 := (by rcases hatB with h | h; (simp [Value.ownBlock] at h; omega); omega); have hgb2 : w.heap.size ≤ gb2 := (hownB.lt gb2 rfl).1; have cq : wB.cell? ⟨ga2, k, none⟩ = some (.int .i64 (A * z k / s)) := (by rw [HA3.out.cellAt k (by omega)]; simp [shQ]); clear hownB hgrowB hatB) | (refine wpList_append_lies ?pw ?p1 ?ps ?px 23 ?p2 w.heap.size 3 i0 (.int .i64 0) 1 8 ?p3 ?p4 ?p5 ?p6 ?p7 ?p8 ?p9 (.slice (some ⟨ga, 0, none⟩) k ca) k ((List.range k).map fun j => .int .i64 (shQ A z s j)) ?p10 ?ph1 ⟨wr.heap.size, 0, none⟩ 1 1 [.int .i64 (A * z k / s)] ?p11 ?p12 ?ph2 ?ph3 ?pc1 ?pc2 ?pc3 ?pc4 (wr.heap.size + 1) ?pc5 ?_; (case p1 => rfl); (case p2 => rfl); (case p10 => rfl); (case p11 => rfl); (case ph1 => exact HA.out.alloc _); (case p3 => exact Try.underlying23); (case p4 => exact hi); (case p5 => exact hz0); (case p6 => exact hz1); (case p7 => exact hz2); (case p8 => rfl); (case p9 => decide); (case p12 => rfl); (case ph2 => go_must (exact cell_one_new _ _ _)); (case ph3 => go_must (intro u hu; simp at hu; subst hu; rfl)); (case pc1 => decide); (case pc2 => go_must (unfold maxLen; omega)); (case pc3 => go_must (omega)); (case pc4 => go_must (simp only [World.size_alloc]; omega)); (case pc5 => simp only [World.size_alloc]); intro ga2 ca2 wA hownA hgrowA hatA hltA; have hbA := (hb.alloc hbs _).grown hgrowA (by simp only [World.size_alloc]; omega) (fun q e => by simp [Value.ownBlock] at e; omega); have c1A := (hbA.cell (p := ⟨b, off + k, none⟩) hbl).trans c0; have hszA := hgrowA.size; simp only [World.size_alloc] at hszA; have HA2 := Lib.hid (own_range (f := fun j => .int .i64 (shQ A z s j)) hownA); have HB1 := Lib.hid ((HB.out.alloc _).kept hgrowA (Or.inr (by simp [Value.ownBlock]; omega))); have hne2 : ga2 ≠ gb := (by rcases hatA with h | h; (simp [Value.ownBlock] at h; omega); omega); have hga2 : w.heap.size ≤ ga2 := (hownA.lt ga2 rfl).1; clear hownA hgrowA hatA))
      go_roundw
      case rel =>
        exact ⟨k + 1, hlt, by go_num, ga2, ca2, gb2, cb2, rfl, rfl, hne3, r - A * z k / s, by go_num, by have := hr.out; have := hq.out; show _ = _; simp only [sumF]; omega, by omega, by omega, HA3.out, HB2.out, hbB⟩
      case measure => simp [intOf]; omega
    · obtain rfl : k = n := by omega
      have hA := numsO_own HA.out
      have hB := numsO_own HB.out
      clear HN
      have hr2 : r = restF A z s k := hr.out
      have hn0 : 0 < k := by
        rcases Nat.eq_zero_or_pos k with h | h
        · have := Hs.out; rw [h] at this; simp [sumF] at this; omega
        · exact h
      have r2 : 0 ≤ r := by rw [hr2]; exact r0
      have r3 : r < k := by rw [hr2]; exact r1 hn0
      have HR2 := Lib.hid hr2
      have hlga := la.1
      have hlgb := lb.1
      have hAt : NumsO wr ga k (outAt (shQ A z s) R 0) := ⟨hA.1, fun i hi => by have := hA.2 i hi; simpa [outAt, got] using this⟩
      have hBt : NumsO wr gb k (leftAt (shR A z s) R 0) := ⟨hB.1, fun i hi => by have := hB.2 i hi; simpa [leftAt, got] using this⟩
      clear hA hB hr2 r0 r1 ra rb hr HA HB hm1 hm0 hbm
      go_wp2_with fail
      go_loopw [9] (fun vr wx => ∃ t : Nat, vr = .int .i64 (r - t) ∧ (t : Int) ≤ r ∧ NumsO wx ga k (outAt (shQ A z s) R t) ∧ NumsO wx gb k (leftAt (shR A z s) R t) ∧ Below w.heap.size w wx) (fun vr _ => (intOf vr).toNat)
      case atStart => exact ⟨0, by simp, by omega, hAt, hBt, hb⟩
      case round =>
        obtain ⟨t, rfl, ht, hA, hB, hbx⟩ := hrel
        generalize wr = wx at *
        rcases Int.lt_or_le 0 (r - t) with hpos | hpos
        · have htk : t < k := by omega
          obtain ⟨L, hL⟩ : ∃ L : Nat → Int, ∀ i, L i = leftAt (shR A z s) R t i := ⟨_, fun _ => rfl⟩
          have hB' : NumsO wx gb k L := ⟨hB.1, fun i hi => by rw [hL]; exact hB.2 i hi⟩
          have HL := Lib.hid hL
          have HBx := Lib.hid hB'
          have HAx := Lib.hid hA
          clear hL hB hA hB'
          go_wp2_with fail
          go_loopw [11, 12] (fun vb vi wy => ∃ i b : Nat, vi = .int .i64 i ∧ vb = .int .i64 b ∧ 1 ≤ i ∧ i ≤ k ∧ b < i ∧ Hid (∀ j, j < i → L j ≤ L b) ∧ Hid (∀ j, j < b → L j < L b) ∧ ∃ q, wy = wx.drewN q) (fun _ vi _ => k - (intOf vi).toNat)
          case atStart =>
            refine ⟨1, 0, rfl, rfl, by omega, by omega, by omega, fun j hj => ?_, fun j hj => by omega, 0, rfl⟩
            obtain rfl : j = 0 := by omega
            exact Int.le_refl _
          case round =>
            obtain ⟨i, b, rfl, rfl, hi1, hik, hbi, hmx, hfs, q, rfl⟩ := hrel
            rcases Nat.lt_or_ge i k with hlt | hge
            · have c1 := (HBx.out.2 i hlt).1
              have c2 := (HBx.out.2 b (by omega)).1
              have k1 : (i : Int) < k := by omega
              have k2 : (b : Int) < k := by omega
              have k3 : (0 : Int) ≤ i := by omega
              have k4 : (0 : Int) ≤ b := by omega
              rcases Int.lt_or_le (L b) (L i) with hgt | hle
              · have hmx2 : Hid (∀ j, j < i + 1 → L j ≤ L i) := fun j hj => by
                  rcases Nat.lt_or_ge j i with h | h
                  · have := hmx.out j h; omega
                  · obtain rfl : j = i := by omega
                    exact Int.le_refl _
                have hfs2 : Hid (∀ j, j < i → L j < L i) := fun j hj => by have := hmx.out j hj; omega
                go_wp2_with fail
                go_quiet (fail)
                go_wp2
                go_roundw
                case rel => exact ⟨i + 1, i, by go_num, rfl, by omega, by omega, by omega, hmx2.out, hfs2.out, _, rfl⟩
                case measure => simp [intOf]; omega
              · have hmx2 : Hid (∀ j, j < i + 1 → L j ≤ L b) := fun j hj => by
                  rcases Nat.lt_or_ge j i with h | h
                  · exact hmx.out j h
                  · obtain rfl : j = i := by omega
                    exact hle
                go_wp2_with fail
                go_quiet (fail)
                go_wp2
                go_roundw
                case rel => exact ⟨i + 1, b, by go_num, rfl, by omega, by omega, by omega, hmx2.out, hfs.out, _, rfl⟩
                case measure => simp [intOf]; omega
            · obtain rfl : i = k := by omega
              have hbR : b = R t := best_is HR.out (fun j _ => Int.emod_nonneg _ (by omega)) htk hbi (fun j hj => by rw [← HL.out, ← HL.out]; exact hmx.out j hj) (fun j hj => by rw [← HL.out, ← HL.out]; exact hfs.out j hj)
              have HbR := Lib.hid hbR
              obtain ⟨c1, f1⟩ := HAx.out.2 b hbi
              obtain ⟨c2, f2⟩ := HBx.out.2 b hbi
              clear hbR hmx hfs
              have k2 : (b : Int) < i := by omega
              have k4 : (0 : Int) ≤ b := by omega
              have v0 : 0 ≤ outAt (shQ A z s) R t b := by
                have : 0 ≤ shQ A z s b := Int.ediv_nonneg (Int.mul_nonneg A0 (Hz.out b hbi).1) (by omega)
                unfold outAt; split <;> omega
              have v1 : outAt (shQ A z s) R t b ≤ 1000000000000000001 := by
                have t0 : 0 ≤ A * z b := Int.mul_nonneg A0 (Hz.out b hbi).1
                have t1 : A * z b ≤ 1000000000000000000 := Int.le_trans (Int.mul_le_mul A1 (Hz.out b hbi).2 (Hz.out b hbi).1 (by omega)) (by omega)
                have : shQ A z s b ≤ A * z b := Int.ediv_le_self _ t0
                unfold outAt; split <;> omega
              have hv : Hid (∀ i, outAt (shQ A z s) R (t + 1) i = if i = b then outAt (shQ A z s) R t b + 1 else outAt (shQ A z s) R t i) := fun i => by
                rw [out_step HR.out htk, HbR.out]
                by_cases e : i = R t
                · rw [if_pos e, if_pos e, e]
                · rw [if_neg e, if_neg e]
              have hv2 : Hid (∀ i, leftAt (shR A z s) R (t + 1) i = if i = b then -1 else L i) := fun i => by rw [left_step, HbR.out, HL.out]
              generalize outAt (shQ A z s) R t b = ob at *
              go_wp2
              go_roundw
              case rel =>
                have hA2 := ((HAx.out.drewN q).set b hbi (ob + 1) (fun i _ => hv.out i)).other ⟨gb, b, none⟩ (.int .i64 (-1)) hne
                have hB2 := ((HBx.out.drewN q).other ⟨ga, b, none⟩ (.int .i64 (ob + 1)) (fun e => hne e.symm)).set b hbi (-1) (fun i _ => hv2.out i)
                exact ⟨t + 1, by go_num, by omega, hA2, hB2, ((belowN hbx q).setCell hlga _).setCell hlgb _⟩
              case measure => simp [intOf]; omega
        · have et : (t : Int) = r := by omega
          have e2 : t = (restF A z s k).toNat := by rw [← HR2.out]; omega
          go_wp2
          go_ret
          exact ⟨_, ca, rfl, by rw [← e2]; exact hA.w hlga, hbx⟩
end Go.Proofs.Ytnhniglldkmanaa
